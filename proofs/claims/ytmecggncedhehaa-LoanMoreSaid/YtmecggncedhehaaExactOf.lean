/-
  What exact.Of does: the sum of a list.
-/
import Derived.Test.YtmecggncedhehaaExact
namespace Go.Proofs.Ytmecggncedhehaa
open Go.RowKit
set_option linter.unusedVariables false

/-- sums of so many amounts keep within their words -/
theorem okS_mk {S : Int} {k : Nat} (hk : k ≤ 4096) (h0 : -(1152921504606846976 * (k : Int)) ≤ S) (h1 : S ≤ 1152921504606846976 * (k : Int)) : okS S := by
  unfold okS hiOf; omega
theorem sum_bd {zs : List Int} (h : ∀ z ∈ zs, amtB z = true) : -(1152921504606846976 * (zs.length : Int)) ≤ zs.sum ∧ zs.sum ≤ 1152921504606846976 * (zs.length : Int) := by
  induction zs with
  | nil => simp
  | cons a l ih =>
    have h1 := ih fun z hz => h z (by simp [hz])
    have h2 := amt_t (h a (by simp))
    rw [List.sum_cons, List.length_cons]
    omega
theorem sum_take_succ {zs : List Int} {k : Nat} (hk : k < zs.length) : (zs.take (k + 1)).sum = (zs.take k).sum + zs.getD k 0 := by
  rw [List.take_succ_eq_append_getElem hk, List.sum_append, List.getD_eq_getElem?_getD, List.getElem?_eq_getElem hk]
  simp
theorem getD_mem {zs : List Int} {k : Nat} (hk : k < zs.length) : zs.getD k 0 ∈ zs := by
  rw [List.getD_eq_getElem?_getD, List.getElem?_eq_getElem hk]; simp
theorem okS_take {zs : List Int} (h : ∀ z ∈ zs, amtB z = true) (hn : zs.length ≤ 4096) (k : Nat) : okS (zs.take k).sum := by
  have h1 := sum_bd (zs := zs.take k) fun z hz => h z (List.mem_of_mem_take hz)
  exact okS_mk (k := (zs.take k).length) (by rw [List.length_take]; omega) h1.1 h1.2

theorem of_second (w : World) (cs ds : Array Value) (T : TypeId) : Blk ((w.alloc (.cells cs T)).alloc (.cells ds T)) (w.heap.size + 1) ds T := by
  have := Blk.made (w.alloc (.cells cs T)) ds T
  rwa [World.size_alloc] at this
theorem plus_at (S n : Int) (w : World) (hS : okS S) (hn0 : -9223372036854775808 ≤ n) (hn1 : n ≤ 9223372036854775807) :
    Calls Try.prog 127 #[.agg #[.int .i64 (hiOf S), .int .u64 (loOf S)], .int .i64 n] w fun e w' => e = .returned (.agg #[.int .i64 (hiOf (S + n)), .int .u64 (loOf (S + n))]) ∧ Grew w w' := plus_run S n w hS hn0 hn1

set_option maxHeartbeats 400000 in
theorem of_some (b off cap : Nat) (zs : List Int) (w : World) (hm : zs.length ≤ 4096) (hc : ∀ j, j < zs.length → w.cell? ⟨b, off + j, none⟩ = some (.int .i64 (zs.getD j 0))) (ha : ∀ z ∈ zs, amtB z = true) :
    Calls Try.prog 135 #[.slice (some ⟨b, off, none⟩) zs.length cap] w fun e w' => e = .returned (.agg #[.int .i64 (hiOf zs.sum), .int .u64 (loOf zs.sum)]) ∧ Grew w w' := by
  have HC := Lib.hid hc; clear hc
  have HA := Lib.hid ha; clear ha
  go_enter Try.func135, Try.ntmps135
  go_wp2
  go_loopw [8] (fun i wr => ∃ k : Nat, k ≤ zs.length ∧ i = .int .i64 k ∧ Hid (Blk wr w.heap.size #[.int .i64 0, .int .u64 0] 152) ∧ Hid (Blk wr (w.heap.size + 1) #[.int .i64 (hiOf (zs.take k).sum), .int .u64 (loOf (zs.take k).sum)] 152) ∧ Hid (Grew w wr)) (fun i _ => zs.length - (intOf i).toNat)
  case atStart => exact ⟨0, Nat.zero_le _, rfl, (Blk.made _ _ _).alloc _, of_second w _ _ _, ((Grew.refl _).alloc _ _).alloc _ _⟩
  case round =>
    obtain ⟨k, hk, rfl, HB0, HB1, HG⟩ := hrel
    by_cases hlt : k < zs.length
    · have hcell := HG.out.cell (cell_in (HC.out k hlt)) (HC.out k hlt)
      have ha := amt_t (HA.out _ (getD_mem hlt))
      have hs := sum_take_succ hlt
      have hok := Lib.hid (okS_take HA.out hm k)
      generalize zs.getD k 0 = z at hcell ha hs
      have HS := Lib.hid hs; clear hs
      generalize (zs.take k).sum = S at *
      have c0 : wr.cell? ⟨w.heap.size + 1, 0, none⟩ = some (.int .i64 (hiOf S)) := HB1.out.cell 0
      have c1 : wr.cell? ⟨w.heap.size + 1, 1, none⟩ = some (.int .u64 (loOf S)) := HB1.out.cell 1
      go_wp2_with (go_at_call 127; (with_reducible refine (plus_at S z _ hok.out (by omega) (by omega)).mono ?_); rintro e w1 ⟨rfl, g1⟩; have B1 := Lib.hid (HB1.out.grew g1); have B0 := Lib.hid (HB0.out.grew g1); have d0 : w1.cell? ⟨w.heap.size + 1, 0, none⟩ = some (.int .i64 (hiOf S)) := B1.out.cell 0; have d1 : w1.cell? ⟨w.heap.size + 1, 1, none⟩ = some (.int .u64 (loOf S)) := B1.out.cell 1; have f0 := B1.out.frozen 0; have f1 := B1.out.frozen 1; have G1 := Lib.hid (gtr HG.out g1); clear g1)
      go_roundw
      case rel => exact ⟨k + 1, by omega, by go_num, (B0.out.away (by simp) _).away (by simp) _, by unfold Hid; rw [HS.out]; exact (B1.out.put 0 _).put 1 _, (G1.out.setCell (by simp) _).setCell (by simp) _⟩
      case measure => simp [intOf]; omega
    · have e : zs.take k = zs := List.take_of_length_le (by omega)
      rw [e] at HB1
      clear e
      obtain ⟨S, hS⟩ : ∃ S, S = zs.sum := ⟨_, rfl⟩
      rw [← hS] at HB1
      have ES := Lib.hid hS; clear hS
      have c0 : wr.cell? ⟨w.heap.size + 1, 0, none⟩ = some (.int .i64 (hiOf S)) := HB1.out.cell 0
      have c1 : wr.cell? ⟨w.heap.size + 1, 1, none⟩ = some (.int .u64 (loOf S)) := HB1.out.cell 1
      have d0 : wr.cell? ⟨w.heap.size, 0, none⟩ = some (.int .i64 0) := HB0.out.cell 0
      have d1 : wr.cell? ⟨w.heap.size, 1, none⟩ = some (.int .u64 0) := HB0.out.cell 1
      have f0 := HB0.out.frozen 0
      have f1 := HB0.out.frozen 1
      go_wp2
      exact bodyPost_ret (v := .agg #[.int .i64 (hiOf S), .int .u64 (loOf S)]) (by simp [results, Try.results135, go_sem, d0, d1]) rfl ⟨by rw [← ES.out], (HG.out.setCell (by simp) _).setCell (by simp) _⟩

theorem of_none (a : Option Addr) (cap : Nat) (w : World) :
    Calls Try.prog 135 #[.slice a 0 cap] w fun e w' => e = .returned (.agg #[.int .i64 0, .int .u64 0]) ∧ Grew w w' := by
  go_enter Try.func135, Try.ntmps135
  go_wp2
  go_loop [8] (fun i => i = .int .i64 0) (fun _ => 0)
  case atStart => exact rfl
  case round =>
    obtain rfl := hrel
    go_wp2
    exact bodyPost_ret (v := .agg #[.int .i64 0, .int .u64 0]) (by simp [results, Try.results135, go_sem]) rfl ⟨rfl, ((Grew.refl _).alloc _ _).alloc _ _⟩

theorem of_any (v : Value) (zs : List Int) (w : World) (hr : Reads w v zs) (hm : zs.length ≤ 4096) (ha : ∀ z ∈ zs, amtB z = true) :
    Calls Try.prog 135 #[v] w fun e w' => e = .returned (.agg #[.int .i64 (hiOf zs.sum), .int .u64 (loOf zs.sum)]) ∧ Grew w w' := by
  rcases hr.cell with ⟨rfl, a, cap, rfl⟩ | ⟨_, b, off, cap, rfl, hc⟩
  · exact of_none a cap w
  · exact of_some b off cap zs w hm hc ha

end Go.Proofs.Ytmecggncedhehaa
