/-
  Merged: BuyA, BuyB, BuyC, BuyD, BuyE.
-/
import Derived.Test.YtmoanndonfmihaaBma
import Derived.Test.YtmoanndonfmihaaSl
import Derived.StillTailTactics
import Derived.Test.YtmoanndonfmihaaBmb
import Derived.Shelf.SlSortCmp.Whole1
import Derived.Test.YtmoanndonfmihaaCost
-- BuyA
namespace Go.Proofs.Ytmoanndonfmihaa
open Go.RowKit Go.Lib
set_option linter.unusedVariables false

/-- the first that is not nought -/
def orF : List Int → Int
  | [] => 0
  | x :: l => if x = 0 then orF l else x
set_option maxHeartbeats 1000000 in
theorem or_any (v : Value) (zs : List Int) (w : World) (hr : Reads w v zs) (hm : zs.length ≤ 100000) : Calls Try.prog 57 #[v] w fun e w' => e = .returned (.int .i64 (orF zs)) ∧ w = w' := by
  obtain ⟨a, cap, rfl, -, -⟩ := id hr
  have HR := Lib.hid hr.sl
  obtain ⟨X, hX⟩ : ∃ X, X = orF zs := ⟨_, rfl⟩
  rw [← hX]
  have HX0 : Hid (X = orF (zs.drop 0)) := hX
  have DR : Hid (∀ k, k < zs.length → zs.drop k = zs.getD k 0 :: zs.drop (k + 1)) := fun k hk => by
    rw [List.drop_eq_getElem_cons hk, List.getD_eq_getElem?_getD, List.getElem?_eq_getElem hk]; rfl
  have DE : Hid (zs.drop zs.length = []) := List.drop_length
  clear hX hr
  go_enter Try.func57, Try.ntmps57
  go_wp2
  go_loop [8] (fun i => ∃ k : Nat, k ≤ zs.length ∧ i = .int .i64 k ∧ Hid (X = orF (zs.drop k))) (fun i => zs.length - (intOf i).toNat)
  case atStart => exact ⟨0, Nat.zero_le _, rfl, HX0.out⟩
  case round =>
    obtain ⟨k, hk, rfl, HE⟩ := hrel
    by_cases hlt : k < zs.length
    · obtain ⟨b, off, rfl, c1⟩ := HR.out k hlt
      have he := HE.out
      rw [DR.out k hlt] at he
      clear HE
      generalize zs.getD k 0 = z at *
      unfold orF at he
      have k0 : (0 : Int) ≤ (k : Int) := by omega
      have k1 : (k : Int) < zs.length := by omega
      by_cases hz : z = 0
      · rw [if_pos hz] at he
        have q : (z != 0) = false := by simpa using hz
        have HE2 := Lib.hid he
        clear he hz
        go_wp2
        go_round
        case rel => exact ⟨k + 1, by omega, by go_num, HE2.out⟩
        case measure => simp [intOf]; omega
      · rw [if_neg hz] at he
        have q : (z != 0) = true := bne_iff_ne.2 hz
        have HE2 := Lib.hid he
        clear he hz
        go_wp2
        go_ret
        exact ⟨ret_int HE2.out.symm, rfl⟩
    · obtain rfl : k = zs.length := by omega
      have he := HE.out
      rw [DE.out] at he
      have HE2 : Hid (X = 0) := he
      clear he HE
      go_wp2
      go_ret
      exact ⟨ret_int HE2.out.symm, rfl⟩

theorem three_new (w : World) (x y z : Int) : Reads (w.alloc (.cells #[.int .i64 x, .int .i64 y, .int .i64 z] 3)) (.slice (some ⟨w.heap.size, 0, none⟩) 3 3) [x, y, z] := by
  have B := Blk.made w #[.int .i64 x, .int .i64 y, .int .i64 z] 3
  refine reads_mk rfl (by unfold maxLen; decide) fun j hj => ?_
  rw [Nat.zero_add]
  rcases (show j = 0 ∨ j = 1 ∨ j = 2 by simp at hj; omega) with rfl | rfl | rfl
  · exact B.cell 0
  · exact B.cell 1
  · exact B.cell 2
def cmpO (p q u t i j : Int) : Int := orF [Lib.compareInt p q, Lib.compareInt t u, Lib.compareInt i j]
set_option maxRecDepth 100000 in
set_option maxHeartbeats 1000000 in
theorem ocmp_run (B g off cap n : Nat) (W : World) (h40 : n ≤ 40) (hB : W.cell? ⟨B, 0, none⟩ = some (.slice (some ⟨g, off, none⟩) n cap)) (i j : Nat) (hi : i < n) (hj : j < n) (p q u t : Int)
    (h1 : W.cell? ⟨g, off + i * 3 + 2, none⟩ = some (.int .i64 p)) (h2 : W.cell? ⟨g, off + j * 3 + 2, none⟩ = some (.int .i64 q)) (h3 : W.cell? ⟨g, off + i * 3 + 1, none⟩ = some (.int .i64 u)) (h4 : W.cell? ⟨g, off + j * 3 + 1, none⟩ = some (.int .i64 t)) :
    Calls Try.prog 56 #[.int .i64 i, .int .i64 j, .pointer (some ⟨B, 0, none⟩)] W fun e w' => e = .returned (.int .i64 (cmpO p q u t i j)) ∧ ∃ o, w' = (W.alloc o).drew := by
  have i0 : (0 : Int) ≤ i := by omega
  have j0 : (0 : Int) ≤ j := by omega
  have i1 : (i : Int) < n := by omega
  have j1 : (j : Int) < n := by omega
  have OR : Hid (∀ (w : World) (x y z : Int) (H : Nat), w.heap.size = H → Calls Try.prog 57 #[.slice (some ⟨H, 0, none⟩) 3 3] (w.alloc (.cells #[.int .i64 x, .int .i64 y, .int .i64 z] 3)).drew fun e w' => e = .returned (.int .i64 (orF [x, y, z])) ∧ (w.alloc (.cells #[.int .i64 x, .int .i64 y, .int .i64 z] 3)).drew = w') := fun w x y z H h => by
    subst h; exact or_any _ [x, y, z] _ ((three_new w x y z).kpt (show Kpt _ (World.drew _) from Below.drew (Kpt.refl _))) (by simp)
  unfold cmpO
  obtain ⟨r1, hr1⟩ : ∃ r, Lib.compareInt p q = r := ⟨_, rfl⟩
  obtain ⟨r2, hr2⟩ : ∃ r, Lib.compareInt t u = r := ⟨_, rfl⟩
  obtain ⟨r3, hr3⟩ : ∃ r, Lib.compareInt (i : Int) (j : Int) = r := ⟨_, rfl⟩
  have C1 : ∀ w, Calls Try.prog 58 #[.int .i64 p, .int .i64 q] w fun e w' => e = .returned (.int .i64 r1) ∧ w' = w := fun w => by rw [← hr1]; exact Try.cmp_Compare_int p q w
  have C2 : ∀ w, Calls Try.prog 58 #[.int .i64 t, .int .i64 u] w fun e w' => e = .returned (.int .i64 r2) ∧ w' = w := fun w => by rw [← hr2]; exact Try.cmp_Compare_int t u w
  have C3 : ∀ w, Calls Try.prog 58 #[.int .i64 i, .int .i64 j] w fun e w' => e = .returned (.int .i64 r3) ∧ w' = w := fun w => by rw [← hr3]; exact Try.cmp_Compare_int i j w
  have D1 := Lib.hid C1
  have D2 := Lib.hid C2
  have D3 := Lib.hid C3
  rw [hr1, hr2, hr3]
  clear C1 C2 C3 hr1 hr2 hr3
  have b1 : W.drew.cell? ⟨B, 0, none⟩ = some (.slice (some ⟨g, off, none⟩) n cap) := hB
  have b2 : W.drew.cell? ⟨g, off + i * 3 + 2, none⟩ = some (.int .i64 p) := h1
  have b3 : W.drew.cell? ⟨g, off + j * 3 + 2, none⟩ = some (.int .i64 q) := h2
  have b4 : W.drew.cell? ⟨g, off + i * 3 + 1, none⟩ = some (.int .i64 u) := h3
  have b5 : W.drew.cell? ⟨g, off + j * 3 + 1, none⟩ = some (.int .i64 t) := h4
  go_enter Try.func56, Try.ntmps56
  go_wp2
  refine wp_region_still_tail 25 (by kernel_rfl) (by kernel_rfl) ?_
  simp only [List.take_succ_cons, List.take_zero, List.drop_succ_cons, List.drop_zero]
  iterate 10 still_step
  still_call (D1.out _)
  iterate 10 still_step
  still_call (D2.out _)
  iterate 2 still_step
  still_call (D3.out _)
  refine wpStill_nil ?_
  change wpList _ _ _ _ _ W.drew
  go_wp2_with (go_at_call 57; (with_reducible refine (OR.out _ _ _ _ _ rfl).mono ?_); rintro e w1 ⟨rfl, rfl⟩)
  go_ret
  exact ⟨rfl, _, rfl⟩

end Go.Proofs.Ytmoanndonfmihaa

-- BuyB
namespace Go.Proofs.Ytmoanndonfmihaa
open Go.RowKit Go.Lib
set_option linter.unusedVariables false

instance lxDecB (k : Int → Int) : DecidableRel (lxK k) := fun x y => inferInstanceAs (Decidable (k x < k y ∨ (k x = k y ∧ x < y)))
/-- the order of offers to buy from: by price, the greater ones first -/
def keyB (ps : List (Int × Int × Int)) (o : Int) : Int := pO ps o * 2147483648 - uO ps o
def ordB (ps : List (Int × Int × Int)) : List Int := ordK ps.length (keyB ps)
theorem ordB_is (ps : List (Int × Int × Int)) : Ordd ps.length (keyB ps) (ordB ps) := ordK_is _ _
theorem cmpO_lt (p q u t i j : Int) : cmpO p q u t i j < 0 ↔ p < q ∨ (p = q ∧ (t < u ∨ (t = u ∧ i < j))) := by
  unfold cmpO orF orF orF orF Lib.compareInt
  repeat' split
  all_goals omega
def cfB (ps : List (Int × Int × Int)) (m : Nat) (i j : Fin (m + 1)) : Int := cmpO (pO ps (i.val : Int)) (pO ps (j.val : Int)) (uO ps (i.val : Int)) (uO ps (j.val : Int)) (i.val : Int) (j.val : Int)
theorem cfB_lt {ps : List (Int × Int × Int)} {m : Nat} (hl : ps.length = m + 1) (hall : ∀ p ∈ ps, offB p = true) (i j : Fin (m + 1)) : ltOf (cfB ps m) i j = decide (lxK (keyB ps) (i.val : Int) (j.val : Int)) := by
  have hi := uO_bd hall (o := (i.val : Int)) (by have := i.isLt; omega)
  have hj := uO_bd hall (o := (j.val : Int)) (by have := j.isLt; omega)
  have h := cmpO_lt (pO ps (i.val : Int)) (pO ps (j.val : Int)) (uO ps (i.val : Int)) (uO ps (j.val : Int)) (i.val : Int) (j.val : Int)
  unfold ltOf
  have e : (cfB ps m i j < 0) ↔ lxK (keyB ps) (i.val : Int) (j.val : Int) := by
    unfold cfB
    rw [h]
    unfold lxK keyB
    omega
  exact decide_eq_decide.2 e
theorem swoB {ps : List (Int × Int × Int)} {m : Nat} (hl : ps.length = m + 1) (hall : ∀ p ∈ ps, offB p = true) : Sort.SWO (ltOf (cfB ps m)) := by
  have e := cfB_lt hl hall
  refine ⟨fun x => ?_, fun x y z h1 h2 => ?_, fun x y z h1 h2 => ?_⟩
  · rw [e]; exact decide_eq_false lxK_irr
  · rw [e] at *
    exact decide_eq_true (lxK_tr _ _ _ (of_decide_eq_true h1) (of_decide_eq_true h2))
  · rw [e] at *
    have h1 := of_decide_eq_false h1
    have h2 := of_decide_eq_false h2
    refine decide_eq_false ?_
    unfold lxK at *
    omega

theorem cmpB_lays (B g off cap m blk : Nat) (ps : List (Int × Int × Int)) (w : World) (hl : ps.length = m + 1) (h40 : ps.length ≤ 40) (hBb : B ≠ blk) (hgb : g ≠ blk) (hB : w.cell? ⟨B, 0, none⟩ = some (.slice (some ⟨g, off, none⟩) ps.length cap)) (hN : ∀ j, j < ps.length → PtAt w g (off + j * 3) (ps.getD j default)) :
    CmpLays1 Try.prog 56 #[.pointer (some ⟨B, 0, none⟩)] (encP m) (cfB ps m) blk 0 (m + 1) w := by
  intro k os dk hs x y
  have old : ∀ p : Addr, p.block < w.heap.size → p.block ≠ blk → (sortWorld (encP m) w blk 0 k dk os).cell? p = w.cell? p := by
    intro p hp hne
    unfold sortWorld
    rw [Sort.cell?_grow _ _ _ (by simpa [Sort.ahead] using hp), Sort.cell?_putRow_other _ _ _ _ _ _ (.inl hne)]
    rfl
  have hx : x.val < ps.length := by have := x.isLt; omega
  have hy : y.val < ps.length := by have := y.isLt; omega
  have nx := hN x.val hx
  have ny := hN y.val hy
  have h := ocmp_run B g off cap ps.length (sortWorld (encP m) w blk 0 k dk os) h40 ((old ⟨B, 0, none⟩ (cell_in hB) hBb).trans hB) x.val y.val hx hy _ _ _ _
    ((old ⟨g, off + x.val * 3 + 2, none⟩ (cell_in nx.2.2) hgb).trans nx.2.2) ((old ⟨g, off + y.val * 3 + 2, none⟩ (cell_in ny.2.2) hgb).trans ny.2.2)
    ((old ⟨g, off + x.val * 3 + 1, none⟩ (cell_in nx.2.1) hgb).trans nx.2.1) ((old ⟨g, off + y.val * 3 + 1, none⟩ (cell_in ny.2.1) hgb).trans ny.2.1)
  refine h.mono ?_
  rintro e w' ⟨rfl, o, rfl⟩
  refine ⟨?_, 1, #[o], ?_⟩
  · unfold cfB pO uO
    rw [Int.toNat_natCast, Int.toNat_natCast]
  · rw [Sort.alloc_eq_grow]; rfl

set_option maxRecDepth 100000 in
theorem sortB_run (B g off cap m blk cap' : Nat) (ps : List (Int × Int × Int)) (w : World) (hl : ps.length = m + 1) (h40 : ps.length ≤ 40) (hall : ∀ p ∈ ps, offB p = true) (hBb : B ≠ blk) (hgb : g ≠ blk) (hB : w.cell? ⟨B, 0, none⟩ = some (.slice (some ⟨g, off, none⟩) ps.length cap)) (hN : ∀ j, j < ps.length → PtAt w g (off + j * 3) (ps.getD j default))
    (hR : Row w blk (vals (plc m))) :
    Calls Try.prog 55 #[.slice (some ⟨blk, 0, none⟩) ps.length cap', .func (.func 56) #[] #[.pointer (some ⟨B, 0, none⟩)]] w (Sorted w blk (ordB ps)) := by
  have eg : ∀ args w, (callFunc 56 args).run Try.prog w = .ok (.enter 56 args) w := enters_of Try.func56 (by kernel_rfl) rfl
  have hcm := cmpB_lays B g off cap m blk ps w hl h40 hBb hgb hB hN
  have h := Try.slices_SortFunc (encP m) (fun _ => rfl) (cfB ps m) (swoB hl hall) 56 #[.pointer (some ⟨B, 0, none⟩)] blk 0 cap' (plc m) w eg (by rw [plc_size]; exact hcm) (holds_plc hR) hR.lt (by rw [plc_size]; omega)
  rw [plc_size] at h
  rw [hl]
  refine h.mono ?_
  rintro e w' ⟨rfl, d', n, os, ⟨hsz, -, hp⟩, hso, rfl⟩
  have hsm : d'.size = m + 1 := by rw [hsz, plc_size]
  have hsz' : d'.size = ps.length := by rw [hsm, hl]
  have hv : vals d' = ordB ps := by
    refine Ordd.eq ⟨?_, ?_⟩
    · have e1 : (d'.extract 0 (m + 1)).toList = d'.toList := by rw [Array.extract_eq_self_of_le (by omega)]
      have e2 : ((plc m).extract 0 (m + 1)).toList = (plc m).toList := by
        have : (plc m).size = m + 1 := plc_size m
        simp [← this]
      rw [e1, e2] at hp
      have hp2 := hp.map fun i : Fin (m + 1) => (i.val : Int)
      have e3 : (plc m).toList.map (fun i : Fin (m + 1) => (i.val : Int)) = iota ps.length := by
        have := upto_full m
        rw [← hl, upto_iota2] at this
        exact this.symm
      rw [e3] at hp2
      exact hp2
    · have hnd : (vals d').Nodup := by
        have e1 : (d'.extract 0 (m + 1)).toList = d'.toList := by rw [Array.extract_eq_self_of_le (by omega)]
        have e2 : ((plc m).extract 0 (m + 1)).toList = (plc m).toList := by
          have : (plc m).size = m + 1 := plc_size m
          simp [← this]
        rw [e1, e2] at hp
        have hp2 := hp.map fun i : Fin (m + 1) => (i.val : Int)
        have e3 : (plc m).toList.map (fun i : Fin (m + 1) => (i.val : Int)) = iota ps.length := by
          have := upto_full m
          rw [← hl, upto_iota2] at this
          exact this.symm
        rw [e3] at hp2
        exact hp2.nodup_iff.2 ((iota_sorted ps.length).imp (fun h => by omega))
      rw [List.pairwise_iff_getElem]
      intro i j hi hj hij
      have hi' : i < d'.size := by simpa [vals] using hi
      have hj' : j < d'.size := by simpa [vals] using hj
      have := hso i j (Nat.zero_le _) hij (by omega)
      rw [cfB_lt hl hall] at this
      have h1 := of_decide_eq_false this
      have h2 : (vals d')[i] ≠ (vals d')[j] := fun e => by
        have := (List.nodup_iff_pairwise_ne.1 hnd)
        exact (List.pairwise_iff_getElem.1 this i j hi hj hij) e
      have e4 : (vals d')[i] = ((d'[i]!).val : Int) := by simp [vals, hi', getElem!_pos]
      have e5 : (vals d')[j] = ((d'[j]!).val : Int) := by simp [vals, hj', getElem!_pos]
      rw [e4, e5] at h2 ⊢
      rcases lxK_tot (k := keyB ps) h2 with g | g
      · exact g
      · exact absurd g h1
  unfold sortWorld
  refine ⟨rfl, ?_, fun B' hB' => ?_⟩
  · have hr2 := row_put (n := 0) (w := Sort.ahead w n) (d := d') (show Row (Sort.ahead w n) blk (vals (plc m)) from hR) (by rw [vals_len, plc_size, hsz', hl])
    rw [hv] at hr2
    exact hr2.below (B := (Sort.putRow (encP m) (Sort.ahead w n) blk 0 d').heap.size) (Kpt.grow (Kpt.refl _) os) (by have := hR.lt; simpa [Sort.putRow, Sort.mapBlock, Sort.ahead] using this)
  · have h1 : Below B' w (Sort.putRow (encP m) (Sort.ahead w n) blk 0 d') := below_put (n := 0) (m := m) (a := w) (w := Sort.ahead w n) (show Below B' w (Sort.ahead w n) from ⟨rfl, rfl, rfl, Nat.le_refl _, fun _ _ => rfl⟩) hB'
    exact h1.trans ((kpt_grow _ os).mono (by have := hR.lt; simp [Sort.putRow, Sort.mapBlock, Sort.ahead]; omega))

end Go.Proofs.Ytmoanndonfmihaa

-- BuyC
namespace Go.Proofs.Ytmoanndonfmihaa
open Go.RowKit Go.Lib
set_option linter.unusedVariables false

theorem ins_zero (a : Option Addr) (cap : Nat) (f : Value) (w : World) : Calls Try.prog 121 #[.slice a 0 cap, .int .i64 0, .int .i64 0, f] w fun e w' => e = .returned (.tuple #[]) ∧ w = w' := by
  go_enter Try.func121, Try.ntmps121
  go_wp2
  go_loop [8] (fun i => i = .int .i64 1) (fun _ => 0)
  case atStart => exact rfl
  case round =>
    obtain rfl := hrel
    go_wp2
    go_end0
    exact ⟨rfl, rfl⟩
set_option maxRecDepth 100000 in
theorem pdq_zero (a : Option Addr) (cap : Nat) (f l : Value) (w : World) : Calls Try.prog 92 #[.slice a 0 cap, .int .i64 0, .int .i64 0, l, f] w fun e w' => e = .returned (.tuple #[]) ∧ w = w' := by
  have I := Lib.hid (fun w => ins_zero a cap f w)
  go_enter Try.func92, Try.ntmps92
  go_wp2
  go_loop [1, 2] (fun i j => i = .int .i64 0 ∧ j = .int .i64 0) (fun _ _ => 0)
  case atStart => exact ⟨rfl, rfl⟩
  case round =>
    obtain ⟨rfl, rfl⟩ := hrel
    go_wp2_with (go_at_call 121; (with_reducible refine (I.out _).mono ?_); rintro e w1 ⟨rfl, rfl⟩)
    refine bodyPost_ret (results_none rfl _ _ _) rfl ?_
    exact ⟨rfl, rfl⟩
theorem sortF_zero (a : Option Addr) (cap : Nat) (f : Value) (w : World) : Calls Try.prog 55 #[.slice a 0 cap, f] w fun e w' => e = .returned (.tuple #[]) ∧ w = w' := by
  have I := Lib.hid (fun l w => pdq_zero a cap f l w)
  have L := Lib.hid (fun w => Try.bits_Len 0 w (by decide) (by decide))
  go_enter Try.func55, Try.ntmps55
  go_wp2_with (first
    | (go_at_call 93; (with_reducible refine (L.out _).mono ?_); rintro e w1 ⟨rfl, rfl⟩)
    | (go_at_call 92; (with_reducible refine (I.out _ _).mono ?_); rintro e w1 ⟨rfl, rfl⟩))
  go_end0
  exact ⟨rfl, rfl⟩

theorem order_bad (v : Value) (ps : List (Int × Int × Int)) (w : World) (hr : ReadsP w v ps) (hE : loanE ps ≠ 0) : Calls Try.prog 16 #[v] w fun e w' => e = .returned (.tuple #[.slice none 0 0, .int .i64 (loanE ps)]) ∧ Kpt w w' := by
  have k0 : Kpt w (w.alloc (.cells #[v] 47)) := (Kpt.refl w).alloc _
  have C := Lib.hid (loanCheck_any v ps _ (hr.kpt k0))
  have q : (loanE ps != 0) = true := bne_iff_ne.2 hE
  have K0 := Lib.hid k0
  obtain ⟨a, cap, rfl, -, -, -, -⟩ := hr
  clear hE k0
  generalize loanE ps = E at *
  go_enter Try.func16, Try.ntmps16
  go_wp2_with (go_at_call 54; (with_reducible refine C.out.mono ?_); rintro e w1 ⟨rfl, k1⟩; have K1 := Lib.hid (ktr K0.out k1); clear k1)
  go_ret2
  exact ⟨rfl, K1.out⟩

set_option maxRecDepth 100000 in
set_option maxHeartbeats 2000000 in
theorem order_ok (a : Option Addr) (cap : Nat) (ps : List (Int × Int × Int)) (w : World) (hr : ReadsP w (.slice a ps.length cap) ps) (hE : loanE ps = 0) : Calls Try.prog 16 #[.slice a ps.length cap] w fun e w' => ∃ O, e = .returned (.tuple #[.slice (some ⟨O, 0, none⟩) ps.length ps.length, .int .i64 0]) ∧ w.heap.size ≤ O ∧ Row w' O (ordB ps) ∧ Kpt w w' := by
  obtain ⟨h40, hall⟩ := loan_0 hE
  have k0 : Kpt w (w.alloc (.cells #[.slice a ps.length cap] 47)) := (Kpt.refl w).alloc _
  have C := Lib.hid (loanCheck_any _ ps _ (hr.kpt k0))
  rw [hE] at C
  have K0 := Lib.hid k0
  have B0 := Lib.hid (Blk.made w #[.slice a ps.length cap] 47)
  -- the sort, wherever the row stands
  have SO : Hid (∀ (W : World) (G : Nat), Kpt w W → w.heap.size < G → W.cell? ⟨w.heap.size, 0, none⟩ = some (.slice a ps.length cap) → Row W G (upto ps.length ps.length) → Calls Try.prog 55 #[.slice (some ⟨G, 0, none⟩) ps.length ps.length, .func (.func 56) #[] #[.pointer (some ⟨w.heap.size, 0, none⟩)]] W fun e W' => e = .returned (.tuple #[]) ∧ Row W' G (ordB ps) ∧ ∀ B, B ≤ G → Below B W W') := by
    intro W G k hG hB hR
    by_cases h0 : ps.length = 0
    · rw [h0]
      refine (sortF_zero _ _ _ W).mono ?_
      rintro e W' ⟨rfl, rfl⟩
      refine ⟨rfl, ?_, fun B _ => Below.refl _ _⟩
      have e1 : ordB ps = upto ps.length ps.length := by
        have h1 : (ordB ps).length = 0 := by rw [(ordB_is ps).len, h0]
        have h2 : (upto ps.length ps.length).length = 0 := by rw [upto_len, h0]
        rw [List.eq_nil_of_length_eq_zero h1, List.eq_nil_of_length_eq_zero h2]
      rw [e1]; exact hR
    · obtain ⟨m, hm⟩ : ∃ m, ps.length = m + 1 := ⟨ps.length - 1, by omega⟩
      have hrW := hr.kpt k
      rcases hrW.cell with ⟨e, _⟩ | ⟨_, b, off, cap', e, hc⟩
      · rw [e] at h0; simp at h0
      · injection e with e1 _ e3
        subst e1 e3
        have hb : b < w.heap.size := by
          rcases hr.cell with ⟨e, _⟩ | ⟨_, b2, off2, cap2, e, hc2⟩
          · rw [e] at h0; simp at h0
          · injection e with e1 _ _
            injection e1 with e1
            injection e1 with e1 _ _
            have := cell_in (hc2 0 (by omega)).1
            rw [e1]; exact this
        have hu : upto ps.length ps.length = vals (plc m) := by rw [hm]; exact upto_full m
        rw [hu] at hR
        exact sortB_run w.heap.size b off cap m G ps.length ps W hm h40 hall (by omega) (by omega) hB hc hR
  obtain ⟨n, hn⟩ : ∃ n, n = ps.length := ⟨_, rfl⟩
  rw [← hn] at C SO B0 K0 h40 ⊢
  clear hr hE hall k0
  generalize ordB ps = os at *
  clear hn
  go_enter Try.func16, Try.ntmps16
  go_wp2_with (go_at_call 54; (with_reducible refine C.out.mono ?_); rintro e w1 ⟨rfl, k1⟩; have K1 := Lib.hid (ktr K0.out k1); have B1 := Lib.hid (B0.out.kpt k1); have b1 : World.cell? w1 ⟨w.heap.size, 0, none⟩ = some (.slice a n cap) := B1.out.cell 0; have s1 : w.heap.size < w1.heap.size := B1.out.lt; have MK := run_zeros w1 n (by omega); clear k1)
  go_loopw [17] (fun i wr => ∃ k : Nat, k ≤ n ∧ i = .int .i64 k ∧ Hid (Row wr w1.heap.size (upto n k)) ∧ Hid (Below w1.heap.size w1 wr)) (fun i _ => n - (intOf i).toNat)
  case atStart => exact ⟨0, Nat.zero_le _, rfl, by unfold Hid; rw [upto_zero]; exact Row.made w1 n, (Below.refl _ _).alloc (Nat.le_refl _) _⟩
  case round =>
    obtain ⟨k, hk, rfl, HR, HB⟩ := hrel
    clear MK
    by_cases hlt : k < n
    · have c1 := HR.out.cell (j := k) (by rw [upto_len]; exact hlt)
      have f1 := HR.out.frozen k
      go_wp2
      go_roundw
      case rel => exact ⟨k + 1, by omega, by go_num, by unfold Hid; rw [← upto_put]; exact HR.out.put k _, HB.out.setCell (Nat.le_refl _) _⟩
      case measure => simp [intOf]; omega
    · obtain rfl : k = n := by omega
      have KW := Lib.hid (ktr K1.out HB.out)
      have S := Lib.hid (SO.out wr w1.heap.size KW.out s1 (Kpt.cell HB.out b1) HR.out)
      clear b1
      go_wp2_with (go_at_call 55; (with_reducible refine S.out.mono ?_); rintro e w2 ⟨rfl, r2, k2⟩; have R2 := Lib.hid r2; have K2 : Hid (Kpt w w2) := KW.out.trans (k2 _ (by omega)); clear r2 k2)
      go_ret2
      exact ⟨w1.heap.size, rfl, by omega, R2.out, K2.out⟩

end Go.Proofs.Ytmoanndonfmihaa

-- BuyD
namespace Go.Proofs.Ytmoanndonfmihaa
open Go.RowKit Go.Lib
set_option linter.unusedVariables false

def forE (ps : List (Int × Int × Int)) (u : Int) : Int := if loanE ps = 0 then (if 1 ≤ u ∧ u ≤ 1073741824 then 0 else 3) else loanE ps
theorem for_0 {ps : List (Int × Int × Int)} {u : Int} (h : forE ps u = 0) : loanE ps = 0 ∧ 1 ≤ u ∧ u ≤ 1073741824 := by
  unfold forE at h
  split at h
  · rename_i h1
    split at h
    · rename_i h2; exact ⟨h1, h2⟩
    · cases h
  · rename_i h1; exact absurd h h1
/-- a call with offers that hands back a list, or an error -/
def OrdBad (w0 : World) (v : Value) (u E : Int) : Prop := ∀ w', Kpt w0 w' → Calls Try.prog 95 #[v, .int .i64 u] w' fun e w'' => e = .returned (.tuple #[.slice none 0 0, .int .i64 E]) ∧ Kpt w' w''
theorem for_bad (v : Value) (ps : List (Int × Int × Int)) (u : Int) (w : World) (hr : ReadsP w v ps) (hE : forE ps u ≠ 0) : Calls Try.prog 95 #[v, .int .i64 u] w fun e w' => e = .returned (.tuple #[.slice none 0 0, .int .i64 (forE ps u)]) ∧ Kpt w w' := by
  by_cases h1 : loanE ps = 0
  · have hu : ¬ (1 ≤ u ∧ u ≤ 1073741824) := fun h => hE (by unfold forE; rw [if_pos h1, if_pos h])
    rw [show forE ps u = 3 by unfold forE; rw [if_pos h1, if_neg hu]]
    obtain ⟨a, cap, rfl, -, -, -, -⟩ := id hr
    have O := Lib.hid (order_ok a cap ps w hr h1)
    clear hr hE h1
    by_cases h2 : u < 1
    · have q : decide (u < 1) = true := decide_eq_true h2
      clear hu h2
      go_enter Try.func95, Try.ntmps95
      go_wp2_with (go_at_call 16; (with_reducible refine O.out.mono ?_); rintro e w1 ⟨g, rfl, _, _, k1⟩; have K1 := Lib.hid k1; clear k1)
      go_ret2
      exact ⟨rfl, K1.out⟩
    · have q : decide (u < 1) = false := decide_eq_false h2
      have q2 : decide (1073741824 < u) = true := decide_eq_true (by omega)
      clear hu h2
      go_enter Try.func95, Try.ntmps95
      go_wp2_with (go_at_call 16; (with_reducible refine O.out.mono ?_); rintro e w1 ⟨g, rfl, _, _, k1⟩; have K1 := Lib.hid k1; clear k1)
      go_ret2
      exact ⟨rfl, K1.out⟩
  · rw [show forE ps u = loanE ps by unfold forE; rw [if_neg h1]]
    have O := Lib.hid (order_bad v ps w hr h1)
    have q : (loanE ps != 0) = true := bne_iff_ne.2 h1
    clear hr hE h1
    generalize loanE ps = E at *
    go_enter Try.func95, Try.ntmps95
    go_wp2_with (go_at_call 16; (with_reducible refine O.out.mono ?_); rintro e w1 ⟨rfl, k1⟩; have K1 := Lib.hid k1; clear k1)
    go_ret2
    exact ⟨rfl, K1.out⟩
theorem for_ok (a : Option Addr) (cap : Nat) (ps : List (Int × Int × Int)) (u : Int) (w : World) (hr : ReadsP w (.slice a ps.length cap) ps) (hE : forE ps u = 0) : Calls Try.prog 95 #[.slice a ps.length cap, .int .i64 u] w fun e w' => ∃ O, e = .returned (.tuple #[.slice (some ⟨O, 0, none⟩) ps.length ps.length, .int .i64 0]) ∧ w.heap.size ≤ O ∧ Row w' O (ordB ps) ∧ Kpt w w' := by
  obtain ⟨h0, h1, h2⟩ := for_0 hE
  have O := Lib.hid (order_ok a cap ps w hr h0)
  have q1 : decide (u < 1) = false := decide_eq_false (by omega)
  have q2 : decide (1073741824 < u) = false := decide_eq_false (by omega)
  clear hr hE h0 h1 h2
  generalize ordB ps = os at *
  generalize ps.length = n at *
  go_enter Try.func95, Try.ntmps95
  go_wp2_with (go_at_call 16; (with_reducible refine O.out.mono ?_); rintro e w1 ⟨g, rfl, hg, r1, k1⟩; have K1 := Lib.hid k1; have R1 := Lib.hid r1; clear k1 r1)
  go_ret2
  exact ⟨g, rfl, hg, R1.out, K1.out⟩

/-- the price of the offer that completes so many; or none -/
def llF (ps : List (Int × Int × Int)) : List Int → Int → Int × Int
  | [], _ => (0, 5)
  | o :: os, u => if u - uO ps o ≤ 0 then (pO ps o, 0) else llF ps os (u - uO ps o)
set_option maxRecDepth 100000 in
set_option maxHeartbeats 1000000 in
theorem least_run (a : Option Addr) (cap O : Nat) (ps : List (Int × Int × Int)) (os : List Int) (u : Int) (w : World) (h40 : ps.length ≤ 40) (hall : ∀ p ∈ ps, offB p = true) (hos : os.length = ps.length) (hob : ∀ j, j < os.length → 0 ≤ os.getD j 0 ∧ os.getD j 0 < ps.length) (hr : ReadsP w (.slice a ps.length cap) ps) (hR : Row w O os) (u0 : 0 ≤ u) (u1 : u ≤ 1073741824) :
    Calls Try.prog 96 #[.slice a ps.length cap, .slice (some ⟨O, 0, none⟩) ps.length ps.length, .int .i64 u] w fun e w' => e = .returned (.tuple #[.int .i64 (llF ps os u).1, .int .i64 (llF ps os u).2]) ∧ w = w' := by
  have HC : Hid (∀ j, j < ps.length → ∃ b off, a = some ⟨b, off, none⟩ ∧ PtAt w b (off + j * 3) (ps.getD j default)) := by
    obtain ⟨a', cap', e, -, -, -, hc⟩ := hr
    injection e with e1 _ e3
    subst e1 e3
    exact hc
  obtain ⟨R1, R2, hRR⟩ : ∃ R1 R2, llF ps os u = (R1, R2) := ⟨_, _, rfl⟩
  rw [hRR]
  have HR0 : Hid (llF ps (os.drop 0) u = (R1, R2)) := hRR
  have HOR := Lib.hid hR
  have HOL := Lib.hid hos
  have HOB := Lib.hid hob
  have HALL : Hid (∀ j, j < ps.length → offB (ps.getD j default) = true) := fun j hj => hall _ (getP_mem hj)
  have DR : Hid (∀ k, k < os.length → os.drop k = os.getD k 0 :: os.drop (k + 1)) := fun k hk => by
    rw [List.drop_eq_getElem_cons hk, List.getD_eq_getElem?_getD, List.getElem?_eq_getElem hk]; rfl
  have DE : Hid (os.drop ps.length = []) := by unfold Hid; rw [← hos]; exact List.drop_length
  clear hr hall hos hob hR hRR
  go_enter Try.func96, Try.ntmps96
  go_wp2
  go_loop [2, 12] (fun v2 i => ∃ (k : Nat) (x : Int), k ≤ ps.length ∧ i = .int .i64 k ∧ v2 = .int .i64 x ∧ 0 ≤ x ∧ x ≤ 1073741824 ∧ Hid (llF ps (os.drop k) x = (R1, R2))) (fun _ i => ps.length - (intOf i).toNat)
  case atStart => exact ⟨0, u, Nat.zero_le _, rfl, rfl, u0, u1, HR0.out⟩
  case round =>
    obtain ⟨k, x, hk, rfl, rfl, x0, x1, HE⟩ := hrel
    by_cases hlt : k < ps.length
    · have hko : k < os.length := by rw [HOL.out]; exact hlt
      have c1 := HOR.out.cell hko
      have ob := HOB.out k hko
      have he := HE.out
      rw [DR.out k hko] at he
      generalize os.getD k 0 = o at c1 ob he
      obtain ⟨q, rfl⟩ : ∃ q : Nat, o = (q : Int) := ⟨o.toNat, by omega⟩
      have hq : q < ps.length := by omega
      obtain ⟨b, off, rfl, hp⟩ := HC.out q hq
      obtain ⟨p0, p1, p2⟩ := hp
      have hb := off_t (HALL.out q hq)
      unfold llF uO pO at he
      rw [Int.toNat_natCast] at he
      generalize ps.getD q default = p at p0 p1 p2 hb he
      obtain ⟨P, U, D⟩ := p
      simp only at p0 p1 p2 hb he
      have hq1 : (q : Int) < ps.length := by omega
      have hq0 : (0 : Int) ≤ (q : Int) := by omega
      have m1 : IntKind.i64.wrap (x - U) = x - U := IntWalk.i64_in _ (by omega)
      clear HE ob p0
      by_cases hz : x - U ≤ 0
      · rw [if_pos hz] at he
        injection he with e1 e2
        subst e1 e2
        have d : decide (x - U ≤ 0) = true := decide_eq_true hz
        clear hz
        go_wp2
        go_ret2
        exact ⟨rfl, rfl⟩
      · rw [if_neg hz] at he
        have HE2 := Lib.hid he
        have d : decide (x - U ≤ 0) = false := decide_eq_false hz
        have xx : 0 ≤ x - U := by omega
        have xy : x - U ≤ 1073741824 := by omega
        clear hz he
        go_wp2
        go_round
        case rel => exact ⟨k + 1, x - U, by omega, by go_num, rfl, xx, xy, HE2.out⟩
        case measure => simp [intOf]; omega
    · obtain rfl : k = ps.length := by omega
      have he := HE.out
      rw [DE.out] at he
      unfold llF at he
      injection he with e1 e2
      subst e1 e2
      clear HE
      go_wp2
      go_ret2
      exact ⟨rfl, rfl⟩

/-- taken of these places, in this order, while they are not too dear -/
def takF (ps : List (Int × Int × Int)) (lim : Int) : List Int → Int → List Int → List Int × Int
  | [], u, tk => (tk, u)
  | o :: os, u, tk => if lim < pO ps o then (tk, u) else takF ps lim os (u - min u (uO ps o)) (tk.set o.toNat (min u (uO ps o)))
def takR (ps : List (Int × Int × Int)) (u lim : Int) : List Int × Int := takF ps lim (ordB ps) u (List.replicate ps.length 0)
def takE (ps : List (Int × Int × Int)) (u lim : Int) : Int := if forE ps u = 0 then (if prcB lim = true then 0 else 3) else forE ps u
theorem take_bad (v : Value) (ps : List (Int × Int × Int)) (u lim : Int) (w : World) (hr : ReadsP w v ps) (hE : takE ps u lim ≠ 0) : Calls Try.prog 60 #[v, .int .i64 u, .int .i64 lim] w fun e w' => e = .returned (.tuple #[.slice none 0 0, .int .i64 0, .int .i64 (takE ps u lim)]) ∧ Kpt w w' := by
  by_cases h1 : forE ps u = 0
  · have hp : prcB lim = false := by
      cases hp : prcB lim with
      | false => rfl
      | true => exact absurd (by unfold takE; rw [if_pos h1, if_pos hp]) hE
    rw [show takE ps u lim = 3 by unfold takE; rw [if_pos h1, if_neg (by rw [hp]; decide)]]
    obtain ⟨a, cap, rfl, -, -, -, -⟩ := id hr
    have O := Lib.hid (for_ok a cap ps u w hr h1)
    have P1 := Lib.hid (fun w => pcheck_no lim hp w)
    clear hr hE h1 hp
    go_enter Try.func60, Try.ntmps60
    go_wp2_with (first
      | (go_at_call 95; (with_reducible refine O.out.mono ?_); rintro e w1 ⟨g, rfl, _, _, k1⟩; have K1 := Lib.hid k1; clear k1)
      | (go_at_call 80; (with_reducible refine (P1.out _).mono ?_); rintro e w2 ⟨rfl, rfl⟩))
    go_ret3
    exact ⟨rfl, K1.out⟩
  · rw [show takE ps u lim = forE ps u by unfold takE; rw [if_neg h1]]
    have O := Lib.hid (for_bad v ps u w hr h1)
    have q : (forE ps u != 0) = true := bne_iff_ne.2 h1
    clear hr hE h1
    generalize forE ps u = E at *
    go_enter Try.func60, Try.ntmps60
    go_wp2_with (go_at_call 95; (with_reducible refine O.out.mono ?_); rintro e w1 ⟨rfl, k1⟩; have K1 := Lib.hid k1; clear k1)
    go_ret3
    exact ⟨rfl, K1.out⟩

set_option maxRecDepth 100000 in
set_option maxHeartbeats 4000000 in
theorem take_ok (a : Option Addr) (cap : Nat) (ps : List (Int × Int × Int)) (u lim : Int) (w : World) (hr : ReadsP w (.slice a ps.length cap) ps) (hE : takE ps u lim = 0) : Calls Try.prog 60 #[.slice a ps.length cap, .int .i64 u, .int .i64 lim] w fun e w' => ∃ g, e = .returned (.tuple #[.slice (some ⟨g, 0, none⟩) ps.length ps.length, .int .i64 (takR ps u lim).2, .int .i64 0]) ∧ w.heap.size ≤ g ∧ Row w' g (takR ps u lim).1 ∧ Kpt w w' := by
  have h1 : forE ps u = 0 := by
    unfold takE at hE
    split at hE
    · rename_i h; exact h
    · rename_i h; exact absurd hE h
  have hp : prcB lim = true := by
    unfold takE at hE
    rw [if_pos h1] at hE
    split at hE
    · rename_i h; exact h
    · cases hE
  obtain ⟨h0, u0, u1⟩ := for_0 h1
  obtain ⟨h40, hall⟩ := loan_0 h0
  have od := ordB_is ps
  have O := Lib.hid (for_ok a cap ps u w hr h1)
  have P1 := Lib.hid (fun w => pcheck_ok lim hp w)
  have HC : Hid (∀ j, j < ps.length → ∃ b off, a = some ⟨b, off, none⟩ ∧ PtAt w b (off + j * 3) (ps.getD j default)) := by
    obtain ⟨a', cap', e, -, -, -, hc⟩ := hr
    injection e with e1 _ e3
    subst e1 e3
    exact hc
  have HOL := Lib.hid od.len
  have HOB := Lib.hid (fun j hj => od.bd (j := j) hj)
  have HALL : Hid (∀ j, j < ps.length → offB (ps.getD j default) = true) := fun j hj => hall _ (getP_mem hj)
  obtain ⟨R1, R2, hR⟩ : ∃ R1 R2, takR ps u lim = (R1, R2) := ⟨_, _, rfl⟩
  rw [hR]
  have HR0 : Hid (takF ps lim ((ordB ps).drop 0) u (List.replicate ps.length 0) = (R1, R2)) := hR
  clear hR od hr hE h0 hall h1 hp
  generalize ordB ps = os at *
  have DR : Hid (∀ k, k < os.length → os.drop k = os.getD k 0 :: os.drop (k + 1)) := fun k hk => by
    rw [List.drop_eq_getElem_cons hk, List.getD_eq_getElem?_getD, List.getElem?_eq_getElem hk]; rfl
  have DE : Hid (os.drop ps.length = []) := by unfold Hid; rw [← HOL.out]; exact List.drop_length
  go_enter Try.func60, Try.ntmps60
  go_wp2_with (first
    | (go_at_call 95; (with_reducible refine O.out.mono ?_); rintro e w1 ⟨Og, rfl, hO, rO, k1⟩; have K1 := Lib.hid k1; have RO := Lib.hid rO; clear k1 rO; have MK := run_zeros w1 ps.length (by omega); have hOl := RO.out.lt)
    | (go_at_call 80; (with_reducible refine (P1.out _).mono ?_); rintro e w2 ⟨rfl, rfl⟩))
  have hGw : w.heap.size ≤ w1.heap.size := K1.out.size
  have hGO : w1.heap.size ≠ Og := by omega
  have RG : Hid (Row (w1.alloc (.cells (Array.replicate ps.length (Value.int .i64 0)) 3)) w1.heap.size (List.replicate ps.length 0)) := Row.made w1 ps.length
  have RO2 : Hid (Row (w1.alloc (.cells (Array.replicate ps.length (Value.int .i64 0)) 3)) Og os) := RO.out.below ((Kpt.refl w1).alloc _) RO.out.lt
  have K2 : Hid (Kpt w (w1.alloc (.cells (Array.replicate ps.length (Value.int .i64 0)) 3))) := K1.out.alloc _
  generalize w1.heap.size = G at *
  clear MK RO K1
  go_loopw [13, 36] (fun v13 i wr => ∃ (k : Nat) (x : Int) (tk : List Int), k ≤ ps.length ∧ v13 = .int .i64 x ∧ i = .int .i64 k ∧ 0 ≤ x ∧ x ≤ 1073741824 ∧ Hid (tk.length = ps.length) ∧ Hid (takF ps lim (os.drop k) x tk = (R1, R2)) ∧ Hid (Row wr G tk) ∧ Hid (Row wr Og os) ∧ Hid (Kpt w wr)) (fun _ i _ => ps.length - (intOf i).toNat)
  case atStart => exact ⟨0, u, _, Nat.zero_le _, rfl, rfl, by omega, by omega, List.length_replicate, HR0.out, RG.out, RO2.out, K2.out⟩
  case round =>
    obtain ⟨k, x, tk, hk, rfl, rfl, x0, x1, HTL, HE, HG, HO, HK⟩ := hrel
    by_cases hlt : k < ps.length
    · have hko : k < os.length := by rw [HOL.out]; exact hlt
      have c1 := HO.out.cell hko
      have ob := HOB.out k hko
      have he := HE.out
      rw [DR.out k hko] at he
      generalize os.getD k 0 = o at c1 ob he
      obtain ⟨q, rfl⟩ : ∃ q : Nat, o = (q : Int) := ⟨o.toNat, by omega⟩
      have hq : q < ps.length := by omega
      have hq1 : (q : Int) < ps.length := by omega
      have hq0 : (0 : Int) ≤ (q : Int) := by omega
      unfold takF uO pO at he
      rw [Int.toNat_natCast] at he
      obtain ⟨b, off, rfl, hp⟩ := HC.out q hq
      obtain ⟨p0, p1, p2⟩ := hp.kpt HK.out
      have hb := off_t (HALL.out q hq)
      clear hp
      generalize ps.getD q default = p at p0 p1 p2 hb he
      obtain ⟨P, U, D⟩ := p
      simp only at p0 p1 p2 hb he
      by_cases hd : lim < D
      · rw [if_pos hd] at he
        injection he with e1 e2
        subst e1 e2
        have d1 : decide (lim < D) = true := decide_eq_true hd
        clear hd HE
        go_wp2
        go_ret3
        exact ⟨G, rfl, hGw, HG.out, HK.out⟩
      · rw [if_neg hd] at he
        have d1 : decide (lim < D) = false := decide_eq_false hd
        obtain ⟨t, ht⟩ : ∃ t, min x U = t := ⟨_, rfl⟩
        have t0 : 0 ≤ t := by omega
        have t1 : t ≤ x := by omega
        rw [ht] at he
        have HE2 := Lib.hid he
        have g1 := HG.out.cell (j := q) (by rw [HTL.out]; exact hq)
        have gf := HG.out.frozen q
        have HG2 : Hid (Row (wr.setCell ⟨G, q, none⟩ (.int .i64 t)) G (tk.set q t)) := HG.out.put q t
        have HO2 : Hid (Row (wr.setCell ⟨G, q, none⟩ (.int .i64 t)) Og os) := HO.out.away (fun e => hGO e.symm) _
        have HK2 : Hid (Kpt w (wr.setCell ⟨G, q, none⟩ (.int .i64 t))) := HK.out.setCell hGw _
        have b1 : World.cell? (wr.setCell ⟨G, q, none⟩ (.int .i64 t)) ⟨G, q, none⟩ = some (.int .i64 t) := set_at g1
        have HTL2 : Hid ((tk.set q t).length = ps.length) := by unfold Hid; rw [List.length_set]; exact HTL.out
        have m1 : IntKind.i64.wrap (x - t) = x - t := IntWalk.i64_in _ (by omega)
        clear hd HE he
        go_wp2
        go_roundw
        case rel => exact ⟨k + 1, x - t, tk.set q t, by omega, rfl, by go_num, by omega, by omega, HTL2.out, HE2.out, HG2.out, HO2.out, HK2.out⟩
        case measure => simp [intOf]; omega
    · obtain rfl : k = ps.length := by omega
      have he := HE.out
      rw [DE.out] at he
      unfold takF at he
      injection he with e1 e2
      subst e1 e2
      clear HE
      go_wp2
      go_ret3
      exact ⟨G, rfl, hGw, HG.out, HK.out⟩

end Go.Proofs.Ytmoanndonfmihaa

-- BuyE
namespace Go.Proofs.Ytmoanndonfmihaa
open Go.RowKit Go.Lib
set_option linter.unusedVariables false

theorem llF_err (ps : List (Int × Int × Int)) : ∀ (os : List Int) (u : Int), (llF ps os u).2 = 0 ∨ ((llF ps os u).2 = 5 ∧ (llF ps os u).1 = 0)
  | [], _ => .inr ⟨rfl, rfl⟩
  | o :: os, u => by
    unfold llF
    split
    · exact .inl rfl
    · exact llF_err ps os _
theorem llF_price (ps : List (Int × Int × Int)) : ∀ (os : List Int) (u : Int), (llF ps os u).2 = 0 → ∃ o ∈ os, (llF ps os u).1 = pO ps o
  | [], _, h => by cases h
  | o :: os, u, h => by
    unfold llF at h ⊢
    split
    · exact ⟨o, by simp, rfl⟩
    · rename_i hz
      rw [if_neg hz] at h
      obtain ⟨q, hq, e⟩ := llF_price ps os _ h
      exact ⟨q, by simp [hq], e⟩
def oneE (ps : List (Int × Int × Int)) (u : Int) : Int := if forE ps u = 0 then (llF ps (ordB ps) u).2 else forE ps u
def oneL (ps : List (Int × Int × Int)) (u : Int) : Int := (llF ps (ordB ps) u).1
theorem one_take {ps : List (Int × Int × Int)} {u : Int} (h : oneE ps u = 0) : takE ps u (oneL ps u) = 0 := by
  unfold oneE at h
  split at h
  · rename_i h1
    obtain ⟨h0, _, _⟩ := for_0 h1
    obtain ⟨h40, hall⟩ := loan_0 h0
    obtain ⟨o, ho, e⟩ := llF_price ps _ _ h
    have hb := uO_bd hall ((ordB_is ps).mem.1 ho)
    unfold takE
    rw [if_pos h1, if_pos]
    unfold oneL
    rw [e]
    exact prc_mk hb.2.2.1 hb.2.2.2
  · rename_i h1; exact absurd h h1

theorem one_bad (v : Value) (ps : List (Int × Int × Int)) (u : Int) (w : World) (hr : ReadsP w v ps) (hE : oneE ps u ≠ 0) : Calls Try.prog 62 #[v, .int .i64 u] w fun e w' => e = .returned (.tuple #[.int .i64 0, .slice none 0 0, .int .i64 (oneE ps u)]) ∧ Kpt w w' := by
  by_cases h1 : forE ps u = 0
  · have he : oneE ps u = (llF ps (ordB ps) u).2 := if_pos h1
    rw [he] at hE
    rcases llF_err ps (ordB ps) u with h | ⟨h5, h6⟩
    · exact absurd h hE
    · rw [he, h5]
      obtain ⟨h0, u0, u1⟩ := for_0 h1
      obtain ⟨h40, hall⟩ := loan_0 h0
      have od := ordB_is ps
      obtain ⟨a, cap, rfl, -, -, -, -⟩ := id hr
      have O := Lib.hid (for_ok a cap ps u w hr h1)
      have LL : Hid (∀ w' O, Kpt w w' → Row w' O (ordB ps) → Calls Try.prog 96 #[.slice a ps.length cap, .slice (some ⟨O, 0, none⟩) ps.length ps.length, .int .i64 u] w' fun e w'' => e = .returned (.tuple #[.int .i64 0, .int .i64 5]) ∧ w' = w'') := fun w' O k r => by
        have := least_run a cap O ps (ordB ps) u w' h40 hall od.len (fun j hj => od.bd hj) (hr.kpt k) r (by omega) u1
        rwa [h5, h6] at this
      clear hr hE h1 he h5 h6 hall od h0
      generalize ordB ps = os at *
      go_enter Try.func62, Try.ntmps62
      go_wp2_with (first
        | (go_at_call 95; (with_reducible refine O.out.mono ?_); rintro e w1 ⟨g, rfl, _, r1, k1⟩; have K1 := Lib.hid k1; have R1 := Lib.hid r1; clear k1 r1)
        | (go_at_call 96; (with_reducible refine (LL.out _ _ K1.out R1.out).mono ?_); rintro e w2 ⟨rfl, rfl⟩))
      go_ret3
      exact ⟨rfl, K1.out⟩
  · rw [show oneE ps u = forE ps u from if_neg h1]
    have O := Lib.hid (for_bad v ps u w hr h1)
    have q : (forE ps u != 0) = true := bne_iff_ne.2 h1
    clear hr hE h1
    generalize forE ps u = E at *
    go_enter Try.func62, Try.ntmps62
    go_wp2_with (go_at_call 95; (with_reducible refine O.out.mono ?_); rintro e w1 ⟨rfl, k1⟩; have K1 := Lib.hid k1; clear k1)
    go_ret3
    exact ⟨rfl, K1.out⟩
theorem one_ok (a : Option Addr) (cap : Nat) (ps : List (Int × Int × Int)) (u : Int) (w : World) (hr : ReadsP w (.slice a ps.length cap) ps) (hE : oneE ps u = 0) : Calls Try.prog 62 #[.slice a ps.length cap, .int .i64 u] w fun e w' => ∃ g, e = .returned (.tuple #[.int .i64 (oneL ps u), .slice (some ⟨g, 0, none⟩) ps.length ps.length, .int .i64 0]) ∧ w.heap.size ≤ g ∧ Row w' g (takR ps u (oneL ps u)).1 ∧ Kpt w w' := by
  have ht := one_take hE
  have h1 : forE ps u = 0 := by
    unfold oneE at hE
    split at hE
    · rename_i h; exact h
    · rename_i h; exact absurd hE h
  have h5 : (llF ps (ordB ps) u).2 = 0 := by
    unfold oneE at hE; rwa [if_pos h1] at hE
  obtain ⟨h0, u0, u1⟩ := for_0 h1
  obtain ⟨h40, hall⟩ := loan_0 h0
  have od := ordB_is ps
  have O := Lib.hid (for_ok a cap ps u w hr h1)
  have T := Lib.hid (fun w' (k : Kpt w w') => take_ok a cap ps u (oneL ps u) w' (hr.kpt k) ht)
  have LL : Hid (∀ w' O, Kpt w w' → Row w' O (ordB ps) → Calls Try.prog 96 #[.slice a ps.length cap, .slice (some ⟨O, 0, none⟩) ps.length ps.length, .int .i64 u] w' fun e w'' => e = .returned (.tuple #[.int .i64 (oneL ps u), .int .i64 0]) ∧ w' = w'') := fun w' O k r => by
    have := least_run a cap O ps (ordB ps) u w' h40 hall od.len (fun j hj => od.bd hj) (hr.kpt k) r (by omega) u1
    rwa [h5] at this
  clear hr hE h1 h5 hall od h0 ht
  generalize (takR ps u (oneL ps u)).1 = R at *
  generalize (takR ps u (oneL ps u)).2 = M at *
  generalize oneL ps u = L at *
  generalize ordB ps = os at *
  go_enter Try.func62, Try.ntmps62
  go_wp2_with (first
    | (go_at_call 95; (with_reducible refine O.out.mono ?_); rintro e w1 ⟨g, rfl, _, r1, k1⟩; have K1 := Lib.hid k1; have R1 := Lib.hid r1; clear k1 r1)
    | (go_at_call 96; (with_reducible refine (LL.out _ _ K1.out R1.out).mono ?_); rintro e w2 ⟨rfl, rfl⟩)
    | (go_at_call 60; (with_reducible refine (T.out _ K1.out).mono ?_); rintro e w3 ⟨g3, rfl, h3, r3, k3⟩; have K3 := Lib.hid (ktr K1.out k3); have R3 := Lib.hid r3; have H3 : w.heap.size ≤ g3 := (by have := Below.size K1.out; omega); clear k3 r3))
  go_ret3
  exact ⟨g3, rfl, H3, R3.out, K3.out⟩

def aptB (u a p : Int) : Bool := decide (0 ≤ u ∧ u ≤ 1073741824) && prcB a && prcB p
def aptE (u a p : Int) : Int := if aptB u a p = true then 0 else 3
def aptQ (u a p : Int) : Int := if aptB u a p = true then u * p / 10000 - u * a / 10000 else 0
theorem apt_t {u a p : Int} (h : aptB u a p = true) : (0 ≤ u ∧ u ≤ 1073741824) ∧ prcB a = true ∧ prcB p = true := by
  unfold aptB at h
  simp only [Bool.and_eq_true] at h
  exact ⟨of_decide_eq_true h.1.1, h.1.2, h.2⟩
theorem apt_mk {u a p : Int} (h1 : 0 ≤ u ∧ u ≤ 1073741824) (h2 : prcB a = true) (h3 : prcB p = true) : aptB u a p = true := by
  unfold aptB; rw [decide_eq_true h1, h2, h3]; rfl
set_option maxHeartbeats 1000000 in
theorem apart_any (u a p : Int) (w : World) : Calls Try.prog 61 #[.int .i64 u, .int .i64 a, .int .i64 p] w fun e w' => e = .returned (.tuple #[.int .i64 (aptQ u a p), .int .i64 (aptE u a p)]) ∧ Kpt w w' := by
  by_cases hu : 0 ≤ u ∧ u ≤ 1073741824
  · have CA := Lib.hid (fun w => cost_any u a w)
    have CP := Lib.hid (fun w => cost_any u p w)
    have ca := cos_dly (p := a) hu
    have cp := cos_dly (p := p) hu
    rw [ca.1, ca.2] at CA
    rw [cp.1, cp.2] at CP
    have y1 : ¬ u < 0 := by omega
    have y2 : ¬ 1073741824 < u := by omega
    cases ha : prcB a with
    | false =>
      have hb : aptB u a p = false := by unfold aptB; rw [ha]; simp
      rw [show aptE u a p = 3 by unfold aptE; rw [hb]; rfl, show aptQ u a p = 0 by unfold aptQ; rw [hb]; rfl]
      rw [ha, if_neg (by decide), if_neg (by decide)] at CA
      clear hb ca cp hu ha
      generalize cosR u a = m at *
      go_enter Try.func61, Try.ntmps61
      go_wp2_with (go_at_call 70; (with_reducible refine (CA.out _).mono ?_); rintro e w1 ⟨rfl, g1⟩; have K1 := Lib.hid g1; clear g1)
      go_ret2
      exact ⟨rfl, K1.out⟩
    | true =>
      rw [ha, if_pos rfl, if_pos rfl] at CA
      cases hp : prcB p with
      | false =>
        have hb : aptB u a p = false := by unfold aptB; rw [hp]; simp
        rw [show aptE u a p = 3 by unfold aptE; rw [hb]; rfl, show aptQ u a p = 0 by unfold aptQ; rw [hb]; rfl]
        rw [hp, if_neg (by decide), if_neg (by decide)] at CP
        clear hb ca cp hu ha hp
        generalize u * a / 10000 = x at *
        generalize cosR u a = m at *
        generalize cosR u p = n at *
        go_enter Try.func61, Try.ntmps61
        go_wp2_with (go_at_call 70; first
          | ((with_reducible refine (CA.out _).mono ?_); rintro e w1 ⟨rfl, g1⟩; have K1 := Lib.hid g1; clear g1)
          | ((with_reducible refine (CP.out _).mono ?_); rintro e w2 ⟨rfl, g1⟩; have K2 := Lib.hid (ktr K1.out g1); clear g1))
        go_ret2
        exact ⟨rfl, K2.out⟩
      | true =>
        have hb := apt_mk hu ha hp
        rw [show aptE u a p = 0 by unfold aptE; rw [hb]; rfl, show aptQ u a p = u * p / 10000 - u * a / 10000 by unfold aptQ; rw [hb]; rfl]
        rw [hp, if_pos rfl, if_pos rfl] at CP
        obtain ⟨c0, c1⟩ := cost_bd hu (prc_t ha)
        obtain ⟨d0, d1⟩ := cost_bd hu (prc_t hp)
        clear hb ca cp hu ha hp
        generalize u * a / 10000 = x at *
        generalize u * p / 10000 = y at *
        generalize cosR u a = m at *
        generalize cosR u p = n at *
        go_enter Try.func61, Try.ntmps61
        go_wp2_with (go_at_call 70; first
          | ((with_reducible refine (CA.out _).mono ?_); rintro e w1 ⟨rfl, g1⟩; have K1 := Lib.hid g1; clear g1 CA)
          | ((with_reducible refine (CP.out _).mono ?_); rintro e w2 ⟨rfl, g1⟩; have K2 := Lib.hid (ktr K1.out g1); clear g1))
        go_ret2
        exact ⟨rfl, K2.out⟩
  · have hb : aptB u a p = false := by unfold aptB; rw [decide_eq_false hu]; simp
    rw [show aptE u a p = 3 by unfold aptE; rw [hb]; rfl, show aptQ u a p = 0 by unfold aptQ; rw [hb]; rfl]
    by_cases y3 : u < 0
    · clear hb hu
      go_enter Try.func61, Try.ntmps61
      go_wp2
      go_ret2
      exact ⟨rfl, Kpt.refl _⟩
    · have y4 : 1073741824 < u := by omega
      clear hb hu
      go_enter Try.func61, Try.ntmps61
      go_wp2
      go_ret2
      exact ⟨rfl, Kpt.refl _⟩

theorem offs_ordB : ordB offs = [1, 2, 0] := (Ordd.eq ⟨by decide, by decide⟩).symm
theorem offs_take : takR offs 75 40000 = ([0, 50, 20], 5) := by unfold takR; rw [offs_ordB]; decide
theorem offs_one : oneE offs 75 = 0 ∧ oneL offs 75 = 50000 ∧ oneE offs 101 = 5 := by unfold oneE oneL; rw [offs_ordB]; decide
theorem offs_take2 : takR offs 75 50000 = ([5, 50, 20], 0) := by unfold takR; rw [offs_ordB]; decide
theorem bb_order (a : Option Addr) (w : World) (hr : ReadsP w (.slice a 3 3) offs) : Calls Try.prog 16 #[.slice a 3 3] w fun e w' => ∃ g, e = .returned (.tuple #[.slice g 3 3, .int .i64 0]) ∧ Hid (Reads w' (.slice g 3 3) [1, 2, 0]) ∧ Kpt w w' := by
  refine (order_ok a 3 offs w hr (by decide)).mono ?_
  rintro e w' ⟨O, rfl, _, r, k⟩
  rw [offs_ordB] at r
  exact ⟨_, rfl, r.reads (by unfold maxLen; decide) 3, k⟩
theorem bb_take (a : Option Addr) (w : World) (hr : ReadsP w (.slice a 3 3) offs) : Calls Try.prog 60 #[.slice a 3 3, .int .i64 75, .int .i64 40000] w fun e w' => ∃ g, e = .returned (.tuple #[.slice g 3 3, .int .i64 5, .int .i64 0]) ∧ Hid (Reads w' (.slice g 3 3) [0, 50, 20]) ∧ Kpt w w' := by
  refine (take_ok a 3 offs 75 40000 w hr (by decide)).mono ?_
  rintro e w' ⟨O, rfl, _, r, k⟩
  rw [offs_take] at r ⊢
  exact ⟨_, rfl, r.reads (by unfold maxLen; decide) 3, k⟩
theorem bb_one (a : Option Addr) (w : World) (hr : ReadsP w (.slice a 3 3) offs) : Calls Try.prog 62 #[.slice a 3 3, .int .i64 75] w fun e w' => ∃ g, e = .returned (.tuple #[.int .i64 50000, .slice g 3 3, .int .i64 0]) ∧ Hid (Reads w' (.slice g 3 3) [5, 50, 20]) ∧ Kpt w w' := by
  refine (one_ok a 3 offs 75 w hr offs_one.1).mono ?_
  rintro e w' ⟨O, rfl, _, r, k⟩
  rw [offs_one.2.1, offs_take2] at r
  rw [offs_one.2.1]
  exact ⟨_, rfl, r.reads (by unfold maxLen; decide) 3, k⟩
theorem bb_none (v : Value) (w : World) (hr : ReadsP w v offs) : Calls Try.prog 62 #[v, .int .i64 101] w fun e w' => e = .returned (.tuple #[.int .i64 0, .slice none 0 0, .int .i64 5]) ∧ Kpt w w' := by
  have := one_bad v offs 101 w hr (by rw [offs_one.2.2]; decide)
  rwa [offs_one.2.2] at this
theorem bb_zero (v : Value) (w : World) (hr : ReadsP w v offs) : Calls Try.prog 60 #[v, .int .i64 0, .int .i64 0] w fun e w' => e = .returned (.tuple #[.slice none 0 0, .int .i64 0, .int .i64 3]) ∧ Kpt w w' := take_bad v offs 0 0 w hr (by decide)
theorem bb_apart (w : World) : Calls Try.prog 61 #[.int .i64 3, .int .i64 20000, .int .i64 15000] w fun e w' => e = .returned (.tuple #[.int .i64 (-2), .int .i64 0]) ∧ Kpt w w' := apart_any 3 20000 15000 w

set_option maxRecDepth 100000 in
set_option maxHeartbeats 4000000 in
theorem buyinBegun (w : World) : Calls Try.prog 17 #[] w fun e w' => e = .returned (.bool true) ∧ Kpt w w' := by
  have G : Hid (Kpt w w) := Kpt.refl w
  have R1 : Hid True := trivial
  have R2 : Hid True := trivial
  have R3 : Hid True := trivial
  have CAR : Hid (∀ {w w' : World} {v : Value} {zs : List Int}, Reads w v zs → Kpt w w' → Reads w' v zs) := fun h k => h.kpt k
  go_enter Try.func17, Try.ntmps17
  go_wp2_with (first
    | (go_at_call 59; (with_reducible refine (offers_run _).mono ?_); rintro e w1 ⟨a1, rfl, H1, k1⟩; have G := Lib.hid (ktr G.out k1); (try have R1 := Lib.hid (Reads.kpt R1.out k1)); (try have R2 := Lib.hid (Reads.kpt R2.out k1)); (try have R3 := Lib.hid (Reads.kpt R3.out k1)); clear k1)
    | (go_at_call 16; (with_reducible refine (bb_order _ _ H1.out).mono ?_); rintro e w2 ⟨a2, rfl, R1, k1⟩; have G := Lib.hid (ktr G.out k1); clear k1)
    | (go_at_call 60; (with_reducible refine (bb_take _ _ H1.out).mono ?_); rintro e w2 ⟨a2, rfl, R2, k1⟩; have G := Lib.hid (ktr G.out k1); have R1 := Lib.hid (Reads.kpt R1.out k1); clear k1)
    | (go_at_call 61; (with_reducible refine (bb_apart _).mono ?_); rintro e w2 ⟨rfl, k1⟩; have G := Lib.hid (ktr G.out k1); have R1 := Lib.hid (Reads.kpt R1.out k1); have R2 := Lib.hid (Reads.kpt R2.out k1); clear k1)
    | (go_at_call 62; (with_reducible refine (bb_one _ _ H1.out).mono ?_); rintro e w2 ⟨a2, rfl, R3, k1⟩; have G := Lib.hid (ktr G.out k1); have R1 := Lib.hid (Reads.kpt R1.out k1); have R2 := Lib.hid (Reads.kpt R2.out k1); clear k1)
    | (go_at_call 62; (with_reducible refine (bb_none _ _ H1.out).mono ?_); rintro e w2 ⟨rfl, k1⟩; have G := Lib.hid (ktr G.out k1); have R1 := Lib.hid (Reads.kpt R1.out k1); have R2 := Lib.hid (Reads.kpt R2.out k1); have R3 := Lib.hid (Reads.kpt R3.out k1); clear k1)
    | (go_at_call 60; (with_reducible refine (bb_zero _ _ H1.out).mono ?_); rintro e w2 ⟨rfl, k1⟩; have G := Lib.hid (ktr G.out k1); have R1 := Lib.hid (Reads.kpt R1.out k1); have R2 := Lib.hid (Reads.kpt R2.out k1); have R3 := Lib.hid (Reads.kpt R3.out k1); clear k1)
    | (go_at_call 63; (with_reducible refine (sameI_run _ _ [1, 2, 0] _ (Reads.kpt R1.out ((Kpt.refl _).alloc _)) (three_at' _ 1 2 0)).mono ?_); rintro e w2 ⟨rfl, k2⟩; have k1 := ktr ((Kpt.refl _).alloc _) k2; have G := Lib.hid (ktr G.out k1); have R2 := Lib.hid (Reads.kpt R2.out k1); have R3 := Lib.hid (Reads.kpt R3.out k1); clear k1 k2)
    | (go_at_call 63; (with_reducible refine (sameI_run _ _ [0, 50, 20] _ (Reads.kpt R2.out ((Kpt.refl _).alloc _)) (three_at' _ 0 50 20)).mono ?_); rintro e w2 ⟨rfl, k2⟩; have k1 := ktr ((Kpt.refl _).alloc _) k2; have G := Lib.hid (ktr G.out k1); have R3 := Lib.hid (Reads.kpt R3.out k1); clear k1 k2)
    | (go_at_call 63; (with_reducible refine (sameI_run _ _ [5, 50, 20] _ (Reads.kpt R3.out ((Kpt.refl _).alloc _)) (three_at' _ 5 50 20)).mono ?_); rintro e w2 ⟨rfl, k2⟩; have k1 := ktr ((Kpt.refl _).alloc _) k2; have G := Lib.hid (ktr G.out k1); clear k1 k2))
  go_ret
  exact ⟨rfl, G.out⟩

end Go.Proofs.Ytmoanndonfmihaa
