/-
  Merged: BookA, BookB, BookC, BookD, BookE.
-/
import Derived.Test.YtgccipmeiceonaaGreatMa8
import Derived.Test.YtgccipmeiceonaaGreatMa7
import Derived.Test.YtgccipmeiceonaaGreatMa4
import Derived.Test.YtgccipmeiceonaaGreatMa5
import Derived.Deep.QuietTactic
import Derived.BigQuiet
import Derived.Test.YtgccipmeiceonaaGreatMa9
import Derived.Deep.RegionWith
import Derived.Deep.RegionHeld3
import Derived.Deep.RegionLaw
import Derived.Deep.Cut
import Derived.Deep.DeepCutAuto
import Derived.Test.YtgccipmeiceonaaGreatMa2
import Derived.Test.YtgccipmeiceonaaGreatShelf2
import Derived.Test.YtgccipmeiceonaaGreatShelf
import Derived.Laws.AppendOwnNone
import Derived.Shelf.SlSortCmp.QuietGrown
-- BookA
namespace Go.Proofs.YtgccipmeiceonaaGreat
open Go.RowKit
set_option linter.unusedVariables false

def plB (a u : Int) : Bool := decide (0 ≤ a ∧ a ≤ 100 ∧ 0 ≤ u ∧ u ≤ 20)
theorem isPlace_any (a u : Int) (w : World) : Calls Tryz.prog 84 #[.int .i64 a, .int .i64 u] w fun e w' => e = .returned (.bool (plB a u)) ∧ w = w' := by
  by_cases h1 : 0 ≤ a
  · by_cases h2 : a ≤ 100
    · by_cases h3 : 0 ≤ u
      · by_cases h4 : u ≤ 20
        · have e : plB a u = true := decide_eq_true ⟨h1, h2, h3, h4⟩
          rw [e]; clear e
          go_enter Tryz.func84, Tryz.ntmps84
          go_wp2
          go_ret
          exact ⟨rfl, rfl⟩
        · have e : plB a u = false := decide_eq_false fun q => h4 q.2.2.2
          rw [e]; clear e
          go_enter Tryz.func84, Tryz.ntmps84
          go_wp2
          go_ret
          exact ⟨rfl, rfl⟩
      · have e : plB a u = false := decide_eq_false fun q => h3 q.2.2.1
        rw [e]; clear e
        go_enter Tryz.func84, Tryz.ntmps84
        go_wp2
        go_ret
        exact ⟨rfl, rfl⟩
    · have e : plB a u = false := decide_eq_false fun q => h2 q.2.1
      rw [e]; clear e
      go_enter Tryz.func84, Tryz.ntmps84
      go_wp2
      go_ret
      exact ⟨rfl, rfl⟩
  · have e : plB a u = false := decide_eq_false fun q => h1 q.1
    rw [e]; clear e
    go_enter Tryz.func84, Tryz.ntmps84
    go_wp2
    go_ret
    exact ⟨rfl, rfl⟩

theorem place_any (a u n : Int) (w : World) (h1 : 0 ≤ a) (h2 : a ≤ 100) (h3 : 0 ≤ u) (h4 : u ≤ 20) : Calls Tryz.prog 82 #[.agg #[.int .i64 a, .int .i64 u, .int .i64 n]] w fun e w' => e = .returned (.int .i64 (a * 21 + u)) ∧ Grew w w' := by
  go_enter Tryz.func82, Tryz.ntmps82
  go_wp2
  go_ret
  exact ⟨rfl, (Grew.refl _).alloc _ _⟩

set_option maxHeartbeats 1000000 in
theorem isPosting_any (a u n : Int) (w : World) : Calls Tryz.prog 34 #[.agg #[.int .i64 a, .int .i64 u, .int .i64 n]] w fun e w' => e = .returned (.bool (ptB (a, u, n))) ∧ Grew w w' := by
  cases hp : plB a u with
  | false =>
    have e : ptB (a, u, n) = false := pt_no fun q => (of_decide_eq_false hp : ¬ _) ⟨q.1, q.2.1, q.2.2.1, q.2.2.2.1⟩
    have P := Lib.hid (fun w => hp ▸ isPlace_any a u w)
    rw [e]; clear e hp
    go_enter Tryz.func34, Tryz.ntmps34
    go_wp2_with (go_at_call 84; (with_reducible refine (P.out _).mono ?_); rintro e w1 ⟨rfl, rfl⟩)
    go_ret
    exact ⟨rfl, (Grew.refl _).alloc _ _⟩
  | true =>
    have P := Lib.hid (fun w => hp ▸ isPlace_any a u w)
    have hq := of_decide_eq_true hp
    by_cases hz : n = 0
    · have e : ptB (a, u, n) = false := pt_no fun q => q.2.2.2.2.1 hz
      have z : (n != 0) = false := by rw [hz]; rfl
      rw [e]; clear e hp hq hz
      go_enter Tryz.func34, Tryz.ntmps34
      go_wp2_with (go_at_call 84; (with_reducible refine (P.out _).mono ?_); rintro e w1 ⟨rfl, rfl⟩)
      go_ret
      exact ⟨rfl, (Grew.refl _).alloc _ _⟩
    · have z : (n != 0) = true := bne_iff_ne.2 hz
      cases hn : amtB n with
      | true =>
        have e : ptB (a, u, n) = true := pt_mk ⟨hq.1, hq.2.1, hq.2.2.1, hq.2.2.2, hz, (amt_t hn).1, (amt_t hn).2⟩
        have M := Lib.hid (fun w => check_ok n w hn)
        rw [e]; clear e hp hq hz hn
        go_enter Tryz.func34, Tryz.ntmps34
        go_wp2_with (first
          | (go_at_call 84; (with_reducible refine (P.out _).mono ?_); rintro e w1 ⟨rfl, rfl⟩)
          | (go_at_call 87; (with_reducible refine (M.out _).mono ?_); rintro e w2 ⟨rfl, g2⟩))
        go_ret
        exact ⟨rfl, gtr ((Grew.refl _).alloc _ _) g2⟩
      | false =>
        have e : ptB (a, u, n) = false := pt_no fun q => amt_f hn q.2.2.2.2.2
        have M := Lib.hid (fun w => check_no n w hn)
        rw [e]; clear e hp hq hz hn
        go_enter Tryz.func34, Tryz.ntmps34
        go_wp2_with (first
          | (go_at_call 84; (with_reducible refine (P.out _).mono ?_); rintro e w1 ⟨rfl, rfl⟩)
          | (go_at_call 87; (with_reducible refine (M.out _).mono ?_); rintro e w2 ⟨rfl, g2⟩))
        go_ret
        exact ⟨rfl, gtr ((Grew.refl _).alloc _ _) g2⟩

end Go.Proofs.YtgccipmeiceonaaGreat

-- BookB
namespace Go.Proofs.YtgccipmeiceonaaGreat
open Go.RowKit
set_option linter.unusedVariables false

theorem sums_zero : (#[.int .i64 0, .int .u64 0, .int .i64 0, .int .u64 0, .int .i64 0, .int .u64 0, .int .i64 0, .int .u64 0, .int .i64 0, .int .u64 0, .int .i64 0, .int .u64 0, .int .i64 0, .int .u64 0, .int .i64 0, .int .u64 0, .int .i64 0, .int .u64 0, .int .i64 0, .int .u64 0, .int .i64 0, .int .u64 0, .int .i64 0, .int .u64 0, .int .i64 0, .int .u64 0, .int .i64 0, .int .u64 0, .int .i64 0, .int .u64 0, .int .i64 0, .int .u64 0, .int .i64 0, .int .u64 0, .int .i64 0, .int .u64 0, .int .i64 0, .int .u64 0, .int .i64 0, .int .u64 0, .int .i64 0, .int .u64 0] : Array Value) = sumsC 21 fun _ => 0 := by kernel_rfl
theorem sums_made (w : World) : Blk (w.alloc (.cells #[.int .i64 0, .int .u64 0, .int .i64 0, .int .u64 0, .int .i64 0, .int .u64 0, .int .i64 0, .int .u64 0, .int .i64 0, .int .u64 0, .int .i64 0, .int .u64 0, .int .i64 0, .int .u64 0, .int .i64 0, .int .u64 0, .int .i64 0, .int .u64 0, .int .i64 0, .int .u64 0, .int .i64 0, .int .u64 0, .int .i64 0, .int .u64 0, .int .i64 0, .int .u64 0, .int .i64 0, .int .u64 0, .int .i64 0, .int .u64 0, .int .i64 0, .int .u64 0, .int .i64 0, .int .u64 0, .int .i64 0, .int .u64 0, .int .i64 0, .int .u64 0, .int .i64 0, .int .u64 0, .int .i64 0, .int .u64 0] 124)) w.heap.size (sumsC 21 fun _ => 0) 124 := sums_zero ▸ Blk.made w _ _

theorem run_neq_units (f : Nat → Int) (w : World) : (binOp .neq 124 (.agg (sumsC 21 f)) (.agg #[.int .i64 0, .int .u64 0, .int .i64 0, .int .u64 0, .int .i64 0, .int .u64 0, .int .i64 0, .int .u64 0, .int .i64 0, .int .u64 0, .int .i64 0, .int .u64 0, .int .i64 0, .int .u64 0, .int .i64 0, .int .u64 0, .int .i64 0, .int .u64 0, .int .i64 0, .int .u64 0, .int .i64 0, .int .u64 0, .int .i64 0, .int .u64 0, .int .i64 0, .int .u64 0, .int .i64 0, .int .u64 0, .int .i64 0, .int .u64 0, .int .i64 0, .int .u64 0, .int .i64 0, .int .u64 0, .int .i64 0, .int .u64 0, .int .i64 0, .int .u64 0, .int .i64 0, .int .u64 0, .int .i64 0, .int .u64 0])).run Tryz.prog w = .ok (.bool (!((List.range 21).all fun u => decide (f u = 0)))) w := by
  have h1 : Tryz.prog.underlying 124 = some (.array 21 98) := by kernel_rfl
  have h2 : ∃ i, Tryz.prog.info? 98 = some i := Option.isSome_iff_exists.1 (by kernel_rfl)
  have h3 : Tryz.prog.cellsOf 98 = 2 := by kernel_rfl
  obtain ⟨i, h2⟩ := h2
  have e := run_equalIn_array w 9999 (sumsC 21 f) (sumsC 21 fun _ => 0) h1 h2
  rw [h3, show (9999 : Nat) = 9997 + 2 from rfl, run_items 21 9997 f (fun _ => 0) w _ (fun i hi => List.mem_range.1 hi)] at e
  rw [sums_zero]
  simp only [binOp, Op.equal, Op.maxDepth, Sem.run_bind]
  rw [show (10000 : Nat) = 9997 + 2 + 1 from rfl, e]
  simp only [hi_zero, lo_zero, words_zero, Result.andThen_ok, Sem.run_pure]

theorem units_size (f : Nat → Int) : (Tryz.prog.info? 124).map (·.size) = some (sumsC 21 f).size := by rw [sums_size]; kernel_rfl

theorem unit_step {ps : List (Int × Int × Int)} {k : Nat} (hk : k < ps.length) (x : Nat) : unitS (ps.take (k + 1)) x = unitS (ps.take k) x + (if (ps.getD k default).2.1 = (x : Int) then (ps.getD k default).2.2 else 0) := by
  rw [List.take_succ_eq_append_getElem hk, unitS_append, List.getD_eq_getElem?_getD, List.getElem?_eq_getElem hk]
  simp [unitS]
theorem okS_unit {ps : List (Int × Int × Int)} (h : ∀ p ∈ ps, ptB p = true) (hn : ps.length ≤ 4096) (k x : Nat) : okS (unitS (ps.take k) x) := by
  have h1 := unitS_bd (l := ps.take k) (fun z hz => h z (List.mem_of_mem_take hz)) x
  exact okS_mk (k := (ps.take k).length) (by rw [List.length_take]; omega) h1.1 h1.2

theorem unit_put {w1 : World} {g u : Nat} {N : Int} {f h : Nat → Int} (hu : u < 21) (hst : ∀ x : Nat, h x = f x + if (u : Int) = (x : Int) then N else 0) (B : Blk w1 g (sumsC 21 f) 124) :
    Hid (Blk ((w1.setCell ⟨g, u * 2, none⟩ (.int .i64 (hiOf (f u + N)))).setCell ⟨g, u * 2 + 1, none⟩ (.int .u64 (loOf (f u + N)))) g (sumsC 21 h) 124) := by
  have e := sums_put 21 f h u hu (fun x hx => by rw [hst x, if_neg (by omega), Int.add_zero])
  have e2 : h u = f u + N := by rw [hst u, if_pos rfl]
  rw [e2] at e
  unfold Hid
  rw [← e]
  exact (B.put _ _).put _ _
set_option maxHeartbeats 4000000 in
set_option maxRecDepth 100000 in
theorem checkEven_some (b off cap : Nat) (ps : List (Int × Int × Int)) (w : World) (hm : ps.length ≤ 4096) (hp : ∀ p ∈ ps, ptB p = true) (hc : ∀ j, j < ps.length → PtAt w b (off + j * 3) (ps.getD j default)) :
    Calls Tryz.prog 35 #[.slice (some ⟨b, off, none⟩) ps.length cap] w fun e w' => e = .returned (.int .i64 (evnE ps)) ∧ Grew w w' := by
  have HC := Lib.hid hc; clear hc
  have HP := Lib.hid hp; clear hp
  go_enter Tryz.func35, Tryz.ntmps35
  go_wp2
  go_loopw [8] (fun i wr => ∃ k : Nat, k ≤ ps.length ∧ i = .int .i64 k ∧ Hid (Blk wr w.heap.size (sumsC 21 (unitS (ps.take k))) 124) ∧ Hid (Grew w wr)) (fun i _ => ps.length - (intOf i).toNat)
  case atStart => exact ⟨0, Nat.zero_le _, rfl, sums_made w, (Grew.refl _).alloc _ _⟩
  case round =>
    obtain ⟨k, hk, rfl, HB, HG⟩ := hrel
    by_cases hlt : k < ps.length
    · obtain ⟨c0, c1, c2⟩ := (HC.out k hlt).grew HG.out
      have hq := pt_t (HP.out _ (getP_mem hlt))
      have hst := unit_step hlt
      have hok := okS_unit HP.out hm k
      generalize ps.getD k default = p at c0 c1 c2 hq hst
      obtain ⟨A, U, N⟩ := p
      simp only at c0 c1 c2 hq
      obtain ⟨u, rfl⟩ : ∃ u : Nat, U = (u : Int) := ⟨U.toNat, by omega⟩
      obtain ⟨-, -, -, hu, hz, hn0, hn1⟩ := hq
      have HOK := Lib.hid (hok u); clear hok
      have hu' : u < 21 := by omega
      have HST := Lib.hid hst; clear hst
      have d0 : wr.cell? ⟨w.heap.size, u * 2, none⟩ = some (.int .i64 (hiOf (unitS (ps.take k) u))) := (HB.out.cell _).trans (sums_hi 21 _ u hu')
      have d1 : wr.cell? ⟨w.heap.size, u * 2 + 1, none⟩ = some (.int .u64 (loOf (unitS (ps.take k) u))) := (HB.out.cell _).trans (sums_lo 21 _ u hu')
      clear hz
      go_wp2
      have e0 : (wr.alloc (.cells #[.int .i64 A, .int .i64 (u : Int), .int .i64 N] 49)).cell? ⟨wr.heap.size, 0, none⟩ = some (.int .i64 A) := (Blk.made wr _ _).cell 0
      have e1 : (wr.alloc (.cells #[.int .i64 A, .int .i64 (u : Int), .int .i64 N] 49)).cell? ⟨wr.heap.size, 1, none⟩ = some (.int .i64 (u : Int)) := (Blk.made wr _ _).cell 1
      have e2 : (wr.alloc (.cells #[.int .i64 A, .int .i64 (u : Int), .int .i64 N] 49)).cell? ⟨wr.heap.size, 2, none⟩ = some (.int .i64 N) := (Blk.made wr _ _).cell 2
      have GA := Lib.hid (HG.out.alloc #[.int .i64 A, .int .i64 (u : Int), .int .i64 N] 49)
      have WA := Lib.hid (HB.out.alloc (.cells #[.int .i64 A, .int .i64 (u : Int), .int .i64 N] 49))
      clear d0 d1 c0 c1 c2
      generalize wr.alloc (.cells #[.int .i64 A, .int .i64 (u : Int), .int .i64 N] 49) = W1 at *
      have d0 : W1.cell? ⟨w.heap.size, u * 2, none⟩ = some (.int .i64 (hiOf (unitS (ps.take k) u))) := (WA.out.cell _).trans (sums_hi 21 _ u hu')
      have d1 : W1.cell? ⟨w.heap.size, u * 2 + 1, none⟩ = some (.int .u64 (loOf (unitS (ps.take k) u))) := (WA.out.cell _).trans (sums_lo 21 _ u hu')
      have hlt2 : w.heap.size < wr.heap.size := HB.out.lt
      have hne : wr.heap.size ≠ w.heap.size := by omega
      have hne' : w.heap.size ≠ wr.heap.size := by omega
      have hu0 : (0 : Int) ≤ (u : Int) := by omega
      have hu1 : (u : Int) < 21 := by omega
      go_region_with (go_at_call 60; (with_reducible refine (plus_at (unitS (ps.take k) u) N _ HOK.out (by omega) (by omega)).mono ?_); rintro e w1 ⟨rfl, g1⟩; have k1 := g1.cell (cell_in (w := W1.drew) e1) e1; have B1 := Lib.hid ((WA.out.drew).grew g1); have d2 : w1.cell? ⟨w.heap.size, u * 2, none⟩ = some (.int .i64 (hiOf (unitS (ps.take k) u))) := (B1.out.cell _).trans (sums_hi 21 _ u hu'); have d3 : w1.cell? ⟨w.heap.size, u * 2 + 1, none⟩ = some (.int .u64 (loOf (unitS (ps.take k) u))) := (B1.out.cell _).trans (sums_lo 21 _ u hu'); have f0 := B1.out.frozen (u * 2); have f1 := B1.out.frozen (u * 2 + 1); have G1 := Lib.hid (gtr GA.out.drew g1); clear g1)
      all_goals go_wp2
      all_goals go_roundw
      all_goals first
        | (case rel => exact ⟨k + 1, by omega, by go_num, unit_put hu' HST.out B1.out, (G1.out.setCell (by simp) _).setCell (by simp) _⟩)
        | (case measure => simp [intOf]; omega)
    · have e : ps.take k = ps := List.take_of_length_le (by omega)
      rw [e] at HB
      clear e
      have RN := run_neq_units (unitS ps)
      have hev : ((List.range 21).all fun u => decide (unitS ps u = 0)) = evnB ps := rfl
      rw [hev] at RN
      clear hev
      have HZ := Lib.hid (units_size (unitS ps))
      cases hE : evnB ps with
      | true =>
        rw [hE, Bool.not_true] at RN
        have HE := Lib.hid (evnE_t hE)
        clear hE
        go_wp2_with (refine wpList_load_row rfl 124 (.tmp 3) rfl w.heap.size rfl 124 _ (0, 0) _ HB.out Tryz.underlying124 rfl HZ.out ?_)
        go_ret
        exact ⟨ret_int HE.out.symm, HG.out⟩
      | false =>
        rw [hE, Bool.not_false] at RN
        have HE := Lib.hid (evnE_f hE)
        clear hE
        go_wp2_with (refine wpList_load_row rfl 124 (.tmp 3) rfl w.heap.size rfl 124 _ (0, 0) _ HB.out Tryz.underlying124 rfl HZ.out ?_)
        go_ret
        exact ⟨ret_int HE.out.symm, HG.out⟩

set_option maxRecDepth 100000 in
theorem checkEven_none (a : Option Addr) (cap : Nat) (w : World) :
    Calls Tryz.prog 35 #[.slice a 0 cap] w fun e w' => e = .returned (.int .i64 0) ∧ Grew w w' := by
  have RN := run_neq_units (unitS [])
  have hev : ((List.range 21).all fun u => decide (unitS [] u = 0)) = true := by decide
  rw [hev, Bool.not_true] at RN
  clear hev
  have HZ := Lib.hid (units_size (unitS []))
  go_enter Tryz.func35, Tryz.ntmps35
  go_wp2
  go_loopw [8] (fun i wr => i = .int .i64 0 ∧ Hid (Blk wr w.heap.size (sumsC 21 (unitS [])) 124) ∧ Hid (Grew w wr)) (fun _ _ => 0)
  case atStart => exact ⟨rfl, sums_made w, (Grew.refl _).alloc _ _⟩
  case round =>
    obtain ⟨rfl, HB, HG⟩ := hrel
    go_wp2_with (refine wpList_load_row rfl 124 (.tmp 3) rfl w.heap.size rfl 124 _ (0, 0) _ HB.out Tryz.underlying124 rfl HZ.out ?_)
    go_ret
    exact ⟨rfl, HG.out⟩

theorem checkEven_any (v : Value) (ps : List (Int × Int × Int)) (w : World) (hr : ReadsP w v ps) (hm : ps.length ≤ 4096) (hp : ∀ p ∈ ps, ptB p = true) :
    Calls Tryz.prog 35 #[v] w fun e w' => e = .returned (.int .i64 (evnE ps)) ∧ Grew w w' := by
  rcases hr.cell with ⟨rfl, a, cap, rfl⟩ | ⟨_, b, off, cap, rfl, hc⟩
  · exact checkEven_none a cap w
  · exact checkEven_some b off cap ps w hm hp hc

end Go.Proofs.YtgccipmeiceonaaGreat

-- BookC
namespace Go.Proofs.YtgccipmeiceonaaGreat
open Go.RowKit
set_option linter.unusedVariables false

theorem evn_any (v : Value) (ps : List (Int × Int × Int)) (w : World) (hr : ReadsP w v ps) (hm : ps.length ≤ 4096) (hp : ∀ p ∈ ps, ptB p = true) (E : Int) (hE : evnE ps = E) :
    Calls Tryz.prog 35 #[v] w fun e w' => e = .returned (.int .i64 E) ∧ Grew w w' := hE ▸ checkEven_any v ps w hr hm hp
theorem isPosting_is (a u n : Int) (w : World) (B : Bool) (h : ptB (a, u, n) = B) : Calls Tryz.prog 34 #[.agg #[.int .i64 a, .int .i64 u, .int .i64 n]] w fun e w' => e = .returned (.bool B) ∧ Grew w w' := h ▸ isPosting_any a u n w

theorem bookCheck_none (a : Option Addr) (cap : Nat) (w : World) : Calls Tryz.prog 10 #[.slice a 0 cap] w fun e w' => e = .returned (.int .i64 1) ∧ Grew w w' := by
  go_enter Tryz.func10, Tryz.ntmps10
  go_wp2
  go_ret
  exact ⟨rfl, Grew.refl _⟩
theorem bookCheck_many (a : Option Addr) (n cap : Nat) (hn : 60 < n) (hb : n ≤ maxLen) (w : World) : Calls Tryz.prog 10 #[.slice a n cap] w fun e w' => e = .returned (.int .i64 2) ∧ Grew w w' := by
  unfold maxLen at hb
  have h0 : ((n : Int) == 0) = false := beq_eq_false_iff_ne.2 (by omega)
  go_enter Tryz.func10, Tryz.ntmps10
  go_wp2
  go_ret
  exact ⟨rfl, Grew.refl _⟩
theorem all_no {ps : List (Int × Int × Int)} {k : Nat} (hk : k < ps.length) (h : ptB (ps.getD k default) = false) : ps.all ptB = false := List.all_eq_false.2 ⟨_, getP_mem hk, by rw [h]; decide⟩

set_option maxHeartbeats 1000000 in
theorem bookCheck_some (b off cap : Nat) (ps : List (Int × Int × Int)) (w : World) (h0 : 0 < ps.length) (hm : ps.length ≤ 60) (hr : ReadsP w (.slice (some ⟨b, off, none⟩) ps.length cap) ps) (hc : ∀ j, j < ps.length → PtAt w b (off + j * 3) (ps.getD j default)) :
    Calls Tryz.prog 10 #[.slice (some ⟨b, off, none⟩) ps.length cap] w fun e w' => e = .returned (.int .i64 (chkE ps)) ∧ Grew w w' := by
  have hz : ((ps.length : Int) == 0) = false := beq_eq_false_iff_ne.2 (by omega)
  have HE : Hid (chkE ps = if ps.all ptB then evnE ps else 3) := by
    unfold Hid chkE
    rw [if_neg (List.length_pos_iff.1 h0), if_neg (by omega)]; rfl
  have HC := Lib.hid hc; clear hc
  have HR := Lib.hid hr; clear hr
  go_enter Tryz.func10, Tryz.ntmps10
  go_wp2
  go_loopw [13] (fun i wr => ∃ k : Nat, k ≤ ps.length ∧ i = .int .i64 k ∧ Hid (∀ j, j < k → ptB (ps.getD j default) = true) ∧ Hid (Grew w wr)) (fun i _ => ps.length - (intOf i).toNat)
  case atStart => exact ⟨0, Nat.zero_le _, rfl, fun j h => absurd h (Nat.not_lt_zero j), Grew.refl _⟩
  case round =>
    obtain ⟨k, hk, rfl, HA, HG⟩ := hrel
    by_cases hlt : k < ps.length
    · obtain ⟨c0, c1, c2⟩ := (HC.out k hlt).grew HG.out
      have HS := Lib.hid (all_no hlt)
      generalize hz : ps.getD k default = p at c0 c1 c2 HS
      have HZ := Lib.hid hz; clear hz
      obtain ⟨A, U, N⟩ := p
      simp only at c0 c1 c2
      cases hb : ptB (A, U, N) with
      | true =>
        have IP := Lib.hid (fun w => isPosting_is A U N w true hb)
        have HB := Lib.hid hb; clear hb
        go_wp2_with (go_at_call 34; (with_reducible refine (IP.out _).mono ?_); rintro e w1 ⟨rfl, g1⟩)
        go_roundw
        case rel => exact ⟨k + 1, by omega, by go_num, fun j hj => by
          rcases (show j < k ∨ j = k by omega) with h | rfl
          · exact HA.out j h
          · rw [HZ.out]; exact HB.out, gtr (HG.out.alloc _ _) g1⟩
        case measure => simp [intOf]; omega
      | false =>
        have IP := Lib.hid (fun w => isPosting_is A U N w false hb)
        have HB := Lib.hid hb; clear hb
        go_wp2_with (go_at_call 34; (with_reducible refine (IP.out _).mono ?_); rintro e w1 ⟨rfl, g1⟩)
        go_ret
        exact ⟨ret_int (by rw [HE.out, HS.out HB.out]; rfl), gtr (HG.out.alloc _ _) g1⟩
    · have hall : ∀ p ∈ ps, ptB p = true := fun p hp => by
        obtain ⟨j, hj, rfl⟩ := List.getElem_of_mem hp
        have := HA.out j (by omega)
        rwa [List.getD_eq_getElem?_getD, List.getElem?_eq_getElem hj] at this
      have CE := Lib.hid (evn_any _ ps wr (HR.out.grew HG.out) (by omega) hall _ rfl)
      have HF : Hid (chkE ps = evnE ps) := by unfold Hid; rw [HE.out, if_pos (List.all_eq_true.2 hall)]
      clear hall
      generalize evnE ps = E at CE HF
      go_wp2_with (go_at_call 35; (with_reducible refine CE.out.mono ?_); rintro e w1 ⟨rfl, g1⟩)
      go_ret
      exact ⟨ret_int HF.out.symm, gtr HG.out g1⟩

theorem bookCheck_any (v : Value) (ps : List (Int × Int × Int)) (w : World) (hr : ReadsP w v ps) :
    Calls Tryz.prog 10 #[v] w fun e w' => e = .returned (.int .i64 (chkE ps)) ∧ Grew w w' := by
  have hl := hr.len
  have hr0 := hr
  rcases hr.cell with ⟨rfl, a, cap, rfl⟩ | ⟨h0, b, off, cap, rfl, hc⟩
  · exact bookCheck_none a cap w
  · by_cases hm : 60 < ps.length
    · have e : chkE ps = 2 := by unfold chkE; rw [if_neg (List.length_pos_iff.1 h0), if_pos hm]
      rw [e]
      exact bookCheck_many _ _ cap hm hl w
    · exact bookCheck_some b off cap ps w h0 (by omega) hr0 hc

theorem lines_many (a : Option Addr) (n cap : Nat) (hn : 400 < n) (hb : n ≤ maxLen) (w : World) : Calls Tryz.prog 33 #[.slice a n cap] w fun e w' => e = .returned (.int .i64 2) ∧ Grew w w' := by
  unfold maxLen at hb
  go_enter Tryz.func33, Tryz.ntmps33
  go_wp2
  go_ret
  exact ⟨rfl, Grew.refl _⟩
theorem lines_none (a : Option Addr) (cap : Nat) (w : World) : Calls Tryz.prog 33 #[.slice a 0 cap] w fun e w' => e = .returned (.int .i64 0) ∧ Grew w w' := by
  have CE := Lib.hid (fun w => checkEven_none a cap w)
  go_enter Tryz.func33, Tryz.ntmps33
  go_wp2
  go_loop [11] (fun i => i = .int .i64 0) (fun _ => 0)
  case atStart => exact rfl
  case round =>
    obtain rfl := hrel
    go_wp2_with (go_at_call 35; (with_reducible refine (CE.out _).mono ?_); rintro e w1 ⟨rfl, g1⟩)
    go_ret
    exact ⟨rfl, g1⟩

theorem drop_getD {ps : List (Int × Int × Int)} {k : Nat} (hk : k < ps.length) : ps.drop k = ps.getD k default :: ps.drop (k + 1) := by
  rw [List.drop_eq_getElem_cons hk, List.getD_eq_getElem?_getD, List.getElem?_eq_getElem hk]; rfl
theorem ord_ok {c : Int} {p : Int × Int × Int} {l : List (Int × Int × Int)} (h : ptB p = true) (h2 : c < plc p) : ordE c (p :: l) = ordE (plc p) l := by rw [ordE, if_pos h, if_neg (by omega)]
theorem ord_st {c : Int} {p : Int × Int × Int} {l : List (Int × Int × Int)} (h : ptB p = true) (h2 : plc p ≤ c) : ordE c (p :: l) = 4 := by rw [ordE, if_pos h, if_pos h2]
theorem ord_no {c : Int} {p : Int × Int × Int} {l : List (Int × Int × Int)} (h : ptB p = false) : ordE c (p :: l) = 3 := by rw [ordE, h]; rfl

set_option maxHeartbeats 2000000 in
theorem lines_some (b off cap : Nat) (ps : List (Int × Int × Int)) (w : World) (hm : ps.length ≤ 400) (hr : ReadsP w (.slice (some ⟨b, off, none⟩) ps.length cap) ps) (hc : ∀ j, j < ps.length → PtAt w b (off + j * 3) (ps.getD j default)) :
    Calls Tryz.prog 33 #[.slice (some ⟨b, off, none⟩) ps.length cap] w fun e w' => e = .returned (.int .i64 (linE ps)) ∧ Grew w w' := by
  have HE : Hid (linE ps = if ordE (-1) ps = 0 then (evnE ps) else ordE (-1) ps) := by
    unfold Hid linE
    rw [if_neg (by omega)]; rfl
  have HC := Lib.hid hc; clear hc
  have HR := Lib.hid hr; clear hr
  go_enter Tryz.func33, Tryz.ntmps33
  go_wp2
  go_loopw [3, 11] (fun t i wr => ∃ (k : Nat) (c : Int), k ≤ ps.length ∧ i = .int .i64 k ∧ t = .int .i64 c ∧ -1 ≤ c ∧ c ≤ 2120 ∧ Hid (ordE (-1) ps = ordE c (ps.drop k)) ∧ Hid (Grew w wr)) (fun _ i _ => ps.length - (intOf i).toNat)
  case atStart => exact ⟨0, -1, Nat.zero_le _, rfl, rfl, by omega, by omega, rfl, Grew.refl _⟩
  case round =>
    obtain ⟨k, c, hk, rfl, rfl, hc0, hc1, HA, HG⟩ := hrel
    by_cases hlt : k < ps.length
    · obtain ⟨c0, c1, c2⟩ := (HC.out k hlt).grew HG.out
      have hd := drop_getD hlt
      generalize ps.getD k default = p at c0 c1 c2 hd
      have HD : Hid (ordE (-1) ps = ordE c (p :: ps.drop (k + 1))) := by unfold Hid; rw [HA.out, hd]
      clear hd
      obtain ⟨A, U, N⟩ := p
      simp only at c0 c1 c2
      cases hb : ptB (A, U, N) with
      | true =>
        have hq := pt_t hb
        simp only at hq
        obtain ⟨q1, q2, q3, q4, -⟩ := hq
        have IP := Lib.hid (fun w => isPosting_is A U N w true hb)
        have PL := Lib.hid (fun w => place_any A U N w q1 q2 q3 q4)
        have P0 : Hid ((wr.alloc (.cells #[.int .i64 A, .int .i64 U, .int .i64 N] 49)).cell? ⟨wr.heap.size, 0, none⟩ = some (.int .i64 A)) := (Blk.made wr _ _).cell 0
        have P1 : Hid ((wr.alloc (.cells #[.int .i64 A, .int .i64 U, .int .i64 N] 49)).cell? ⟨wr.heap.size, 1, none⟩ = some (.int .i64 U)) := (Blk.made wr _ _).cell 1
        have P2 : Hid ((wr.alloc (.cells #[.int .i64 A, .int .i64 U, .int .i64 N] 49)).cell? ⟨wr.heap.size, 2, none⟩ = some (.int .i64 N)) := (Blk.made wr _ _).cell 2
        by_cases hle : A * 21 + U ≤ c
        · have HX := Lib.hid (ord_st (l := ps.drop (k + 1)) hb hle)
          clear hb
          go_wp2_with (first
            | (go_at_call 34; (with_reducible refine (IP.out _).mono ?_); rintro e w1 ⟨rfl, g1⟩; have d0 := g1.cell (cell_in P0.out) P0.out; have d1 := g1.cell (cell_in P1.out) P1.out; have d2 := g1.cell (cell_in P2.out) P2.out)
            | (go_at_call 82; (with_reducible refine (PL.out _).mono ?_); rintro e w2 ⟨rfl, g2⟩))
          go_ret
          exact ⟨ret_int (by rw [HE.out, HD.out, HX.out]; rfl), gtr (gtr (HG.out.alloc _ _) g1) g2⟩
        · have hgt : c < A * 21 + U := by omega
          have HX := Lib.hid (ord_ok (l := ps.drop (k + 1)) hb hgt)
          clear hb
          go_wp2_with (first
            | (go_at_call 34; (with_reducible refine (IP.out _).mono ?_); rintro e w1 ⟨rfl, g1⟩; have d0 := g1.cell (cell_in P0.out) P0.out; have d1 := g1.cell (cell_in P1.out) P1.out; have d2 := g1.cell (cell_in P2.out) P2.out; have G1 := Lib.hid (gtr (HG.out.alloc #[.int .i64 A, .int .i64 U, .int .i64 N] 49) g1))
            | (go_at_call 82; (with_reducible refine (PL.out w1).mono ?_); rintro e w2 ⟨rfl, g2⟩; have e0 := g2.cell (cell_in d0) d0; have e1 := g2.cell (cell_in d1) d1; have e2 := g2.cell (cell_in d2) d2)
            | (go_at_call 82; (with_reducible refine (PL.out w2).mono ?_); rintro e w3 ⟨rfl, g3⟩))
          go_roundw
          case rel => exact ⟨k + 1, A * 21 + U, by omega, by go_num, rfl, by omega, by omega, by unfold Hid; rw [HD.out, HX.out]; rfl, gtr (gtr G1.out g2) g3⟩
          case measure => simp [intOf]; omega
      | false =>
        have IP := Lib.hid (fun w => isPosting_is A U N w false hb)
        have HX := Lib.hid (ord_no (c := c) (l := ps.drop (k + 1)) hb)
        clear hb
        go_wp2_with (go_at_call 34; (with_reducible refine (IP.out _).mono ?_); rintro e w1 ⟨rfl, g1⟩)
        go_ret
        exact ⟨ret_int (by rw [HE.out, HD.out, HX.out]; rfl), gtr (HG.out.alloc _ _) g1⟩
    · have hd : ps.drop k = [] := List.drop_eq_nil_of_le (by omega)
      have h0 : ordE (-1) ps = 0 := by rw [HA.out, hd]; rfl
      have CE := Lib.hid (evn_any _ ps wr (HR.out.grew HG.out) (by omega) (strict_pt (ord_0.1 h0)) _ rfl)
      have HF : Hid (linE ps = evnE ps) := by unfold Hid; rw [HE.out, if_pos h0]
      clear h0 hd
      generalize evnE ps = E at CE HF
      go_wp2_with (go_at_call 35; (with_reducible refine CE.out.mono ?_); rintro e w1 ⟨rfl, g1⟩)
      go_ret
      exact ⟨ret_int HF.out.symm, gtr HG.out g1⟩

theorem lines_any (v : Value) (ps : List (Int × Int × Int)) (w : World) (hr : ReadsP w v ps) :
    Calls Tryz.prog 33 #[v] w fun e w' => e = .returned (.int .i64 (linE ps)) ∧ Grew w w' := by
  have hl := hr.len
  have hr0 := hr
  rcases hr.cell with ⟨rfl, a, cap, rfl⟩ | ⟨h0, b, off, cap, rfl, hc⟩
  · exact lines_none a cap w
  · by_cases hm : 400 < ps.length
    · have e : linE ps = 2 := by unfold linE; rw [if_pos hm]
      rw [e]
      exact lines_many _ _ cap hm hl w
    · exact lines_some b off cap ps w (by omega) hr0 hc

end Go.Proofs.YtgccipmeiceonaaGreat

-- BookD
namespace Go.Proofs.YtgccipmeiceonaaGreat
open Go.RowKit
set_option linter.unusedVariables false

/-- the slice v is the call's own, from block 'base' on, and holds these postings -/
def OwnsP (w : World) (base : Nat) (v : Value) (ps : List (Int × Int × Int)) : Prop := w.ownsRow base 49 3 v ps.length (flatP ps)
theorem OwnsP.nil (w : World) (base : Nat) : OwnsP w base (.slice none 0 0) [] := ⟨rfl, .inl ⟨rfl, rfl⟩⟩
theorem OwnsP.ge {w : World} {base : Nat} {v : Value} {ps : List (Int × Int × Int)} (h : OwnsP w base v ps) : ∀ k, v.ownBlock = some k → base ≤ k := by
  intro k hk
  rcases h.2 with ⟨rfl, _⟩ | ⟨g, cap, cur, rfl, hg, _⟩
  · simp [Value.ownBlock] at hk
  · simp [Value.ownBlock] at hk; omega
theorem inP_of {ps : List (Int × Int × Int)} (h : ∀ p ∈ ps, ptB p = true) : InP ps := fun p hp => by
  have := pt_t (h p hp); omega
/-- what is owned reads -/
theorem OwnsP.reads {w : World} {base : Nat} {v : Value} {ps : List (Int × Int × Int)} (h : OwnsP w base v ps) (hb : InP ps) : ReadsP w v ps := by
  rcases h.2 with ⟨rfl, hn⟩ | ⟨k, cap, cur, rfl, hk, hh, hn, hm, hs, ht⟩
  · obtain rfl : ps = [] := List.eq_nil_of_length_eq_zero hn
    exact readsP_nil w none 0 (fun _ => rfl)
  · refine ⟨_, cap, rfl, (fun e => by cases e), Nat.le_trans hn hm, hb, fun j hj => ⟨k, 0, rfl, ?_⟩⟩
    have hc : ∀ i, w.cell? ⟨k, i, none⟩ = cur[i]? := fun i => cell_of_row w k i cur _ (0, 0) hh
    have hi : ∀ i, i < ps.length * 3 → cur[i]? = (flatP ps)[i]? := fun i hi => by
      rw [← ht, List.getElem?_take_of_lt (by omega), ← Array.getElem?_toList]
    obtain ⟨e0, e1, e2⟩ := flatP_at ps j hj
    rw [Nat.zero_add]
    exact ⟨by rw [hc, hi _ (by omega), e0], by rw [hc, hi _ (by omega), e1], by rw [hc, hi _ (by omega), e2]⟩

theorem Tryz.infoPost : (Tryz.prog.info? 49).map (fun i => (i.zero, i.size, i.bytes)) = some (some (.agg #[.int .i64 0, .int .i64 0, .int .i64 0]), 3, 24) := by kernel_rfl

/-- append of postings that are read to a slice of the call's own -/
theorem wp_appendP {ops : Array Oper} {rest : List Oper} {o : Oper} {a : Act} {Q : Exit → Act → World → Prop} (hgd : o.guard = none) (s x : Operand)
    (ho : o.op = .call { callee := .builtin .append, args := #[s, x], argTypes := #[23, 23] })
    (base : Nat) (v u : Value) (ps qs : List (Int × Int × Int)) (w : World) (hs : a.eval s = v) (hown : OwnsP w base v ps) (hx : a.eval x = u) (hr : ReadsP w u qs)
    (hlen : ps.length + qs.length ≤ 100000) (hbase : base ≤ w.heap.size)
    (h : ∀ v' w', OwnsP w' base v' (ps ++ qs) → Below base w w' → wpList Tryz.prog ops Q rest (a.put o.dst v') w') : wpList Tryz.prog ops Q (o :: rest) a w := by
  obtain ⟨i0, hi, hz0, hz1, hz2⟩ := info_parts Tryz.infoPost
  obtain ⟨ad, cap, rfl, hn, hm, hb, hc⟩ := hr
  cases ad with
  | none =>
    obtain rfl := hn rfl
    have h0 : qs = [] := by
      cases qs with
      | nil => rfl
      | cons q l => obtain ⟨b, off, e, _⟩ := hc 0 (by simp); cases e
    subst h0
    refine wpList_append_own_none hgd s x 23 ho base 49 i0 3 Tryz.underlying23 hi v _ _ hs hown hx ?_
    exact h v w (by rw [List.append_nil]; exact hown) (Below.refl _ _)
  | some ad =>
    refine wpList_append_own _ hgd s x 23 ho base 49 i0 _ 3 24 Tryz.underlying23 hi hz0 hz1 hz2 rfl (by decide) v _ _ hs hown ad qs.length cap (flatP qs) hx (flatP_len qs) ?_ (flatP_one qs) ?_ ?_ hbase ?_
    · intro j u hu
      have hj : j < qs.length * 3 := by
        have := (List.getElem?_eq_some_iff.1 hu).1
        rwa [flatP_len] at this
      obtain ⟨q, r, hr, rfl⟩ : ∃ q r, r < 3 ∧ j = q * 3 + r := ⟨j / 3, j % 3, by omega, by omega⟩
      have hq : q < qs.length := by omega
      obtain ⟨b, off, e, h1, h2, h3⟩ := hc q hq
      have e' := Option.some.inj e
      clear hb
      subst e'
      obtain ⟨e0, e1, e2⟩ := flatP_at qs q hq
      have ea : (⟨b, off, none⟩ : Addr).add (q * 3 + r) = ⟨b, off + q * 3 + r, none⟩ := by simp [Addr.add, Nat.add_assoc]
      rw [ea]
      rcases (show r = 0 ∨ r = 1 ∨ r = 2 by omega) with rfl | rfl | rfl
      · rw [Nat.add_zero] at hu ⊢; rw [e0] at hu; rw [← hu]; exact h1
      · rw [e1] at hu; rw [← hu]; exact h2
      · rw [e2] at hu; rw [← hu]; exact h3
    · unfold maxLen; omega
    · omega
    · intro v' w' h1 h2 _
      refine h v' w' ?_ ((Below.refl base w).grown h2 hbase hown.ge)
      unfold OwnsP
      rw [List.length_append, flatP_append]
      exact h1

/-- slices.Grow of nothing -/
theorem grow_new (n : Nat) (w : World) (h0 : 0 < n) (h1 : n ≤ 100000) :
    Calls Tryz.prog 122 #[.slice none 0 0, .int .i64 n] w fun e w' => (∃ G, e = .returned (.slice (some ⟨w.heap.size, 0, none⟩) 0 G) ∧ OwnsP w' w.heap.size (.slice (some ⟨w.heap.size, 0, none⟩) 0 G) []) ∧ Grew w w' := by
  obtain ⟨i0, hi, hz0, hz1, hz2⟩ := info_parts Tryz.infoPost
  refine (Any8.slices_Grow_grow Tryz.growP i0 _ hi hz0 (by omega) none 0 0 n [] w (Nat.le_refl _) (by omega) (by rw [hz2]; omega) (by omega) (by simp) (fun _ => rfl) (fun a e => by cases e)).mono ?_
  rintro e w' ⟨rfl, rfl⟩
  have hge := grownCap_ge w (0 + n) 0 49
  have hle := grownCap_le_maxLen w (0 + n) 0 49 (by unfold maxLen; omega)
  refine ⟨⟨_, rfl, rfl, .inr ⟨_, _, _, rfl, Nat.le_refl _, heap_alloc_new _ _, Nat.zero_le _, hle, ?_, rfl⟩⟩, (Grew.refl w).drew.alloc _ _⟩
  have z3 : (Value.agg #[.int .i64 0, .int .i64 0, .int .i64 0]).cells.size = 3 := rfl
  rw [Array.size_append, Array.size_append, size_zeroCells, size_zeroCells, z3]
  simp only [List.size_toArray, List.length_nil]
  have et : Tryz.growP_ren.t 25 = 49 := rfl
  rw [et]
  omega

end Go.Proofs.YtgccipmeiceonaaGreat

-- BookE
namespace Go.Proofs.YtgccipmeiceonaaGreat
open Go.RowKit Go.Sort Go.Lib
set_option linter.unusedVariables false

/-- the key by which lines are sorted, whatever numbers they hold -/
def keyP (p : Int × Int × Int) : Int := wrap64 (wrap64 (p.1 * 21) + p.2.1)
theorem key_plc {p : Int × Int × Int} (h : ptB p = true) : keyP p = plc p := by
  have := pt_t h
  unfold keyP plc wrap64
  omega
def encP (p : Int × Int × Int) : List Value := [.int .i64 p.1, .int .i64 p.2.1, .int .i64 p.2.2]

theorem place_raw (a u n : Int) (W : World) : Calls Tryz.prog 82 #[.agg #[.int .i64 a, .int .i64 u, .int .i64 n]] W fun e w' => e = .returned (.int .i64 (wrap64 (wrap64 (a * 21) + u))) ∧ ∃ q os', w' = Go.Sort.grow (W.drewN q) os' := by
  go_enter Tryz.func82, Tryz.ntmps82
  go_wp2
  go_ret
  exact ⟨rfl, 0, _, alloc_eq_grow _ _⟩
theorem place_raw' (p : Int × Int × Int) (W : World) (K : Int) (h : keyP p = K) : Calls Tryz.prog 82 #[.agg #[.int .i64 p.1, .int .i64 p.2.1, .int .i64 p.2.2]] W fun e w' => e = .returned (.int .i64 K) ∧ ∃ q os', w' = Go.Sort.grow (W.drewN q) os' := h ▸ place_raw p.1 p.2.1 p.2.2 W

theorem quiet_grown {W : World} {r : Int} : ∀ (e : Ending) (w' : World), (e = .returned (.int .i64 r) ∧ w' = W) → e = .returned (.int .i64 r) ∧ ∃ q os', w' = Go.Sort.grow (W.drewN q) os' := fun e w' h => ⟨h.1, 0, #[], by rw [h.2, grow_empty]; rfl⟩
set_option maxRecDepth 100000 in
set_option maxHeartbeats 1000000 in
theorem closure_run (x y : Int × Int × Int) (W : World) : Calls Tryz.prog 80 #[.agg #[.int .i64 x.1, .int .i64 x.2.1, .int .i64 x.2.2], .agg #[.int .i64 y.1, .int .i64 y.2.1, .int .i64 y.2.2]] W fun e w' => e = .returned (.int .i64 (Lib.compareInt (keyP x) (keyP y))) ∧ ∃ q os', w' = Go.Sort.grow (W.drewN q) os' := by
  have hx := Lib.hid (fun W => place_raw' x W _ rfl)
  have hy := Lib.hid (fun W => place_raw' y W _ rfl)
  generalize keyP x = X at *
  generalize keyP y = Y at *
  obtain ⟨x0, x1, x2⟩ := x
  obtain ⟨y0, y1, y2⟩ := y
  have hcon := Lib.hid (fun W' => Tryz.cmp_Compare_int X Y W')
  generalize Lib.compareInt X Y = r at hcon ⊢
  go_enter Tryz.func80, Tryz.ntmps80
  go_wp2
  have B0 := (Blk.made W #[.int .i64 x0, .int .i64 x1, .int .i64 x2] 49).alloc (.cells #[.int .i64 y0, .int .i64 y1, .int .i64 y2] 49)
  have B1 : Blk ((W.alloc (.cells #[.int .i64 x0, .int .i64 x1, .int .i64 x2] 49)).alloc (.cells #[.int .i64 y0, .int .i64 y1, .int .i64 y2] 49)) (W.heap.size + 1) #[.int .i64 y0, .int .i64 y1, .int .i64 y2] 49 := of_second W _ _ _
  have HE : Hid (∀ n os, ∃ q os', Go.Sort.grow (((W.alloc (.cells #[.int .i64 x0, .int .i64 x1, .int .i64 x2] 49)).alloc (.cells #[.int .i64 y0, .int .i64 y1, .int .i64 y2] 49)).drewN n) os = Go.Sort.grow (W.drewN q) os') := fun n os => ⟨n, _, by rw [alloc_eq_grow, alloc_eq_grow, grow_grow]; exact grow_grow (W.drewN n) _ _⟩
  generalize (W.alloc (.cells #[.int .i64 x0, .int .i64 x1, .int .i64 x2] 49)).alloc (.cells #[.int .i64 y0, .int .i64 y1, .int .i64 y2] 49) = W2 at *
  have f0 := cell_grown (w := W2) (a := ⟨W.heap.size, 0, none⟩) (v := .int .i64 x0) B0.lt (B0.cell 0)
  have f1 := cell_grown (w := W2) (a := ⟨W.heap.size, 1, none⟩) (v := .int .i64 x1) B0.lt (B0.cell 1)
  have f2 := cell_grown (w := W2) (a := ⟨W.heap.size, 2, none⟩) (v := .int .i64 x2) B0.lt (B0.cell 2)
  have g0 := cell_grown (w := W2) (a := ⟨W.heap.size + 1, 0, none⟩) (v := .int .i64 y0) B1.lt (B1.cell 0)
  have g1 := cell_grown (w := W2) (a := ⟨W.heap.size + 1, 1, none⟩) (v := .int .i64 y1) B1.lt (B1.cell 1)
  have g2 := cell_grown (w := W2) (a := ⟨W.heap.size + 1, 2, none⟩) (v := .int .i64 y2) B1.lt (B1.cell 2)
  clear B0 B1
  have mixed : Tryz.prog.follows .mixedOrders = true := by kernel_rfl
  go_quiet_grown (first
    | (go_at_call 82; with_reducible refine Calls.grown_of (hx.out _))
    | (go_at_call 82; with_reducible refine Calls.grown_of (hy.out _))
    | (go_at_call 81; with_reducible refine Calls.grown_of ((hcon.out _).mono quiet_grown)))
  go_wp2
  go_ret
  exact ⟨rfl, HE.out _ _⟩

end Go.Proofs.YtgccipmeiceonaaGreat
