/-
  What checkEven of package book does.
-/
import Derived.Test.YtklaojahocjeiaaBookA
import Derived.Test.YtklaojahocjeiaaSumsEq
import Derived.Deep.RegionWith
import Derived.Deep.RegionHeld3
import Derived.Deep.RegionLaw
import Derived.Deep.Cut
import Derived.Deep.DeepCutAuto
namespace Go.Proofs.Ytklaojahocjeiaa
open Go.RowKit
set_option linter.unusedVariables false

theorem sums_zero : (#[.int .i64 0, .int .u64 0, .int .i64 0, .int .u64 0, .int .i64 0, .int .u64 0, .int .i64 0, .int .u64 0, .int .i64 0, .int .u64 0, .int .i64 0, .int .u64 0, .int .i64 0, .int .u64 0, .int .i64 0, .int .u64 0, .int .i64 0, .int .u64 0, .int .i64 0, .int .u64 0, .int .i64 0, .int .u64 0, .int .i64 0, .int .u64 0, .int .i64 0, .int .u64 0, .int .i64 0, .int .u64 0, .int .i64 0, .int .u64 0, .int .i64 0, .int .u64 0, .int .i64 0, .int .u64 0, .int .i64 0, .int .u64 0, .int .i64 0, .int .u64 0, .int .i64 0, .int .u64 0, .int .i64 0, .int .u64 0] : Array Value) = sumsC 21 fun _ => 0 := by kernel_rfl
theorem sums_made (w : World) : Blk (w.alloc (.cells #[.int .i64 0, .int .u64 0, .int .i64 0, .int .u64 0, .int .i64 0, .int .u64 0, .int .i64 0, .int .u64 0, .int .i64 0, .int .u64 0, .int .i64 0, .int .u64 0, .int .i64 0, .int .u64 0, .int .i64 0, .int .u64 0, .int .i64 0, .int .u64 0, .int .i64 0, .int .u64 0, .int .i64 0, .int .u64 0, .int .i64 0, .int .u64 0, .int .i64 0, .int .u64 0, .int .i64 0, .int .u64 0, .int .i64 0, .int .u64 0, .int .i64 0, .int .u64 0, .int .i64 0, .int .u64 0, .int .i64 0, .int .u64 0, .int .i64 0, .int .u64 0, .int .i64 0, .int .u64 0, .int .i64 0, .int .u64 0] 102)) w.heap.size (sumsC 21 fun _ => 0) 102 := sums_zero ▸ Blk.made w _ _

theorem run_neq_units (f : Nat → Int) (w : World) : (binOp .neq 102 (.agg (sumsC 21 f)) (.agg #[.int .i64 0, .int .u64 0, .int .i64 0, .int .u64 0, .int .i64 0, .int .u64 0, .int .i64 0, .int .u64 0, .int .i64 0, .int .u64 0, .int .i64 0, .int .u64 0, .int .i64 0, .int .u64 0, .int .i64 0, .int .u64 0, .int .i64 0, .int .u64 0, .int .i64 0, .int .u64 0, .int .i64 0, .int .u64 0, .int .i64 0, .int .u64 0, .int .i64 0, .int .u64 0, .int .i64 0, .int .u64 0, .int .i64 0, .int .u64 0, .int .i64 0, .int .u64 0, .int .i64 0, .int .u64 0, .int .i64 0, .int .u64 0, .int .i64 0, .int .u64 0, .int .i64 0, .int .u64 0, .int .i64 0, .int .u64 0])).run Try.prog w = .ok (.bool (!((List.range 21).all fun u => decide (f u = 0)))) w := by
  have h1 : Try.prog.underlying 102 = some (.array 21 100) := by kernel_rfl
  have h2 : ∃ i, Try.prog.info? 100 = some i := Option.isSome_iff_exists.1 (by kernel_rfl)
  have h3 : Try.prog.cellsOf 100 = 2 := by kernel_rfl
  obtain ⟨i, h2⟩ := h2
  have e := run_equalIn_array w 9999 (sumsC 21 f) (sumsC 21 fun _ => 0) h1 h2
  rw [h3, show (9999 : Nat) = 9997 + 2 from rfl, run_items 21 9997 f (fun _ => 0) w _ (fun i hi => List.mem_range.1 hi)] at e
  rw [sums_zero]
  simp only [binOp, Op.equal, Op.maxDepth, Sem.run_bind]
  rw [show (10000 : Nat) = 9997 + 2 + 1 from rfl, e]
  simp only [hi_zero, lo_zero, words_zero, Result.andThen_ok, Sem.run_pure]

theorem units_size (f : Nat → Int) : (Try.prog.info? 102).map (·.size) = some (sumsC 21 f).size := by rw [sums_size]; kernel_rfl

theorem unit_step {ps : List (Int × Int × Int)} {k : Nat} (hk : k < ps.length) (x : Nat) : unitS (ps.take (k + 1)) x = unitS (ps.take k) x + (if (ps.getD k default).2.1 = (x : Int) then (ps.getD k default).2.2 else 0) := by
  rw [List.take_succ_eq_append_getElem hk, unitS_append, List.getD_eq_getElem?_getD, List.getElem?_eq_getElem hk]
  simp [unitS]
theorem okS_unit {ps : List (Int × Int × Int)} (h : ∀ p ∈ ps, ptB p = true) (hn : ps.length ≤ 4096) (k x : Nat) : okS (unitS (ps.take k) x) := by
  have h1 := unitS_bd (l := ps.take k) (fun z hz => h z (List.mem_of_mem_take hz)) x
  exact okS_mk (k := (ps.take k).length) (by rw [List.length_take]; omega) h1.1 h1.2

theorem unit_put {w1 : World} {g u : Nat} {N : Int} {f h : Nat → Int} (hu : u < 21) (hst : ∀ x : Nat, h x = f x + if (u : Int) = (x : Int) then N else 0) (B : Blk w1 g (sumsC 21 f) 102) :
    Hid (Blk ((w1.setCell ⟨g, u * 2, none⟩ (.int .i64 (hiOf (f u + N)))).setCell ⟨g, u * 2 + 1, none⟩ (.int .u64 (loOf (f u + N)))) g (sumsC 21 h) 102) := by
  have e := sums_put 21 f h u hu (fun x hx => by rw [hst x, if_neg (by omega), Int.add_zero])
  have e2 : h u = f u + N := by rw [hst u, if_pos rfl]
  rw [e2] at e
  unfold Hid
  rw [← e]
  exact (B.put _ _).put _ _
set_option maxHeartbeats 4000000 in
set_option maxRecDepth 100000 in
theorem checkEven_some (b off cap : Nat) (ps : List (Int × Int × Int)) (w : World) (hm : ps.length ≤ 4096) (hp : ∀ p ∈ ps, ptB p = true) (hc : ∀ j, j < ps.length → PtAt w b (off + j * 3) (ps.getD j default)) :
    Calls Try.prog 52 #[.slice (some ⟨b, off, none⟩) ps.length cap] w fun e w' => e = .returned (.int .i64 (evnE ps)) ∧ Grew w w' := by
  have HC := Lib.hid hc; clear hc
  have HP := Lib.hid hp; clear hp
  go_enter Try.func52, Try.ntmps52
  go_wp2
  go_loopw [8] (fun i wr => ∃ k : Nat, k ≤ ps.length ∧ i = .int .i64 k ∧ Hid (Blk wr w.heap.size (sumsC 21 (unitS (ps.take k))) 102) ∧ Hid (Grew w wr)) (fun i _ => ps.length - (intOf i).toNat)
  case atStart => exact ⟨0, Nat.zero_le _, rfl, sums_made w, (Grew.refl _).alloc _ _⟩
  case round =>
    obtain ⟨k, hk, rfl, HB, HG⟩ := hrel
    by_cases hlt : k < ps.length
    · obtain ⟨c0, c1, c2⟩ := (HC.out k hlt).grew HG.out
      have hq := pt_t (HP.out _ (getP_mem hlt))
      have hst := unit_step hlt
      have hok := okS_unit HP.out hm k
      generalize ps.getD k default = p at c0 c1 c2 hq hst
      obtain ⟨A, U, N⟩ := p
      simp only at c0 c1 c2 hq
      obtain ⟨u, rfl⟩ : ∃ u : Nat, U = (u : Int) := ⟨U.toNat, by omega⟩
      obtain ⟨-, -, -, hu, hz, hn0, hn1⟩ := hq
      have HOK := Lib.hid (hok u); clear hok
      have hu' : u < 21 := by omega
      have HST := Lib.hid hst; clear hst
      have d0 : wr.cell? ⟨w.heap.size, u * 2, none⟩ = some (.int .i64 (hiOf (unitS (ps.take k) u))) := (HB.out.cell _).trans (sums_hi 21 _ u hu')
      have d1 : wr.cell? ⟨w.heap.size, u * 2 + 1, none⟩ = some (.int .u64 (loOf (unitS (ps.take k) u))) := (HB.out.cell _).trans (sums_lo 21 _ u hu')
      clear hz
      go_wp2
      have e0 : (wr.alloc (.cells #[.int .i64 A, .int .i64 (u : Int), .int .i64 N] 53)).cell? ⟨wr.heap.size, 0, none⟩ = some (.int .i64 A) := (Blk.made wr _ _).cell 0
      have e1 : (wr.alloc (.cells #[.int .i64 A, .int .i64 (u : Int), .int .i64 N] 53)).cell? ⟨wr.heap.size, 1, none⟩ = some (.int .i64 (u : Int)) := (Blk.made wr _ _).cell 1
      have e2 : (wr.alloc (.cells #[.int .i64 A, .int .i64 (u : Int), .int .i64 N] 53)).cell? ⟨wr.heap.size, 2, none⟩ = some (.int .i64 N) := (Blk.made wr _ _).cell 2
      have GA := Lib.hid (HG.out.alloc #[.int .i64 A, .int .i64 (u : Int), .int .i64 N] 53)
      have WA := Lib.hid (HB.out.alloc (.cells #[.int .i64 A, .int .i64 (u : Int), .int .i64 N] 53))
      clear d0 d1 c0 c1 c2
      generalize wr.alloc (.cells #[.int .i64 A, .int .i64 (u : Int), .int .i64 N] 53) = W1 at *
      have d0 : W1.cell? ⟨w.heap.size, u * 2, none⟩ = some (.int .i64 (hiOf (unitS (ps.take k) u))) := (WA.out.cell _).trans (sums_hi 21 _ u hu')
      have d1 : W1.cell? ⟨w.heap.size, u * 2 + 1, none⟩ = some (.int .u64 (loOf (unitS (ps.take k) u))) := (WA.out.cell _).trans (sums_lo 21 _ u hu')
      have hlt2 : w.heap.size < wr.heap.size := HB.out.lt
      have hne : wr.heap.size ≠ w.heap.size := by omega
      have hne' : w.heap.size ≠ wr.heap.size := by omega
      have hu0 : (0 : Int) ≤ (u : Int) := by omega
      have hu1 : (u : Int) < 21 := by omega
      go_region_with (go_at_call 66; (with_reducible refine (plus_at (unitS (ps.take k) u) N _ HOK.out (by omega) (by omega)).mono ?_); rintro e w1 ⟨rfl, g1⟩; have k1 := g1.cell (cell_in (w := W1.drew) e1) e1; have B1 := Lib.hid ((WA.out.drew).grew g1); have d2 : w1.cell? ⟨w.heap.size, u * 2, none⟩ = some (.int .i64 (hiOf (unitS (ps.take k) u))) := (B1.out.cell _).trans (sums_hi 21 _ u hu'); have d3 : w1.cell? ⟨w.heap.size, u * 2 + 1, none⟩ = some (.int .u64 (loOf (unitS (ps.take k) u))) := (B1.out.cell _).trans (sums_lo 21 _ u hu'); have f0 := B1.out.frozen (u * 2); have f1 := B1.out.frozen (u * 2 + 1); have G1 := Lib.hid (gtr GA.out.drew g1); clear g1)
      all_goals go_wp2
      all_goals go_roundw
      all_goals first
        | (case rel => exact ⟨k + 1, by omega, by go_num, unit_put hu' HST.out B1.out, (G1.out.setCell (by simp) _).setCell (by simp) _⟩)
        | (case measure => simp [intOf]; omega)
    · have e : ps.take k = ps := List.take_of_length_le (by omega)
      rw [e] at HB
      clear e
      have RN := run_neq_units (unitS ps)
      have hev : ((List.range 21).all fun u => decide (unitS ps u = 0)) = evnB ps := rfl
      rw [hev] at RN
      clear hev
      have HZ := Lib.hid (units_size (unitS ps))
      cases hE : evnB ps with
      | true =>
        rw [hE, Bool.not_true] at RN
        have HE := Lib.hid (evnE_t hE)
        clear hE
        go_wp2_with (refine wpList_load_row rfl 102 (.tmp 3) rfl w.heap.size rfl 102 _ (0, 0) _ HB.out Try.underlying102 rfl HZ.out ?_)
        go_ret
        exact ⟨ret_int HE.out.symm, HG.out⟩
      | false =>
        rw [hE, Bool.not_false] at RN
        have HE := Lib.hid (evnE_f hE)
        clear hE
        go_wp2_with (refine wpList_load_row rfl 102 (.tmp 3) rfl w.heap.size rfl 102 _ (0, 0) _ HB.out Try.underlying102 rfl HZ.out ?_)
        go_ret
        exact ⟨ret_int HE.out.symm, HG.out⟩

set_option maxRecDepth 100000 in
theorem checkEven_none (a : Option Addr) (cap : Nat) (w : World) :
    Calls Try.prog 52 #[.slice a 0 cap] w fun e w' => e = .returned (.int .i64 0) ∧ Grew w w' := by
  have RN := run_neq_units (unitS [])
  have hev : ((List.range 21).all fun u => decide (unitS [] u = 0)) = true := by decide
  rw [hev, Bool.not_true] at RN
  clear hev
  have HZ := Lib.hid (units_size (unitS []))
  go_enter Try.func52, Try.ntmps52
  go_wp2
  go_loopw [8] (fun i wr => i = .int .i64 0 ∧ Hid (Blk wr w.heap.size (sumsC 21 (unitS [])) 102) ∧ Hid (Grew w wr)) (fun _ _ => 0)
  case atStart => exact ⟨rfl, sums_made w, (Grew.refl _).alloc _ _⟩
  case round =>
    obtain ⟨rfl, HB, HG⟩ := hrel
    go_wp2_with (refine wpList_load_row rfl 102 (.tmp 3) rfl w.heap.size rfl 102 _ (0, 0) _ HB.out Try.underlying102 rfl HZ.out ?_)
    go_ret
    exact ⟨rfl, HG.out⟩

theorem checkEven_any (v : Value) (ps : List (Int × Int × Int)) (w : World) (hr : ReadsP w v ps) (hm : ps.length ≤ 4096) (hp : ∀ p ∈ ps, ptB p = true) :
    Calls Try.prog 52 #[v] w fun e w' => e = .returned (.int .i64 (evnE ps)) ∧ Grew w w' := by
  rcases hr.cell with ⟨rfl, a, cap, rfl⟩ | ⟨_, b, off, cap, rfl, hc⟩
  · exact checkEven_none a cap w
  · exact checkEven_some b off cap ps w hm hp hc

end Go.Proofs.Ytklaojahocjeiaa
