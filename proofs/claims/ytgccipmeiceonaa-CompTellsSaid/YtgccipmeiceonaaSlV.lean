/-
  slices.Values, slices.AppendSeq, slices.Collect and slices.Sorted at ints: contracts.
-/
import Derived.RangeFuncBox
import Derived.RangeFuncNested
import Derived.RangeFuncBound
import Derived.RangeFuncCalls
import Derived.RangeFuncLeaves
import Derived.RangeFuncFrom
import Derived.RangeFuncWrites
import Derived.Shelf.Abstract
import Derived.Shelf.RegionOpen
import Derived.OwnWalkIn
import Derived.TacticsInMore
import Derived.LoopNIn
import Derived.LoopIn
import Derived.Maps.AppendAt
import Derived.Sort.OwnSortedInts
import Derived.Test.YtgccipmeiceonaaShelf
import Derived.Test.YtgccipmeiceonaaOwn
import Derived.Test.YtgccipmeiceonaaKept
import Derived.Test.YtgccipmeiceonaaSl
namespace Go.Proofs.Ytgccipmeiceonaa
open Go.RowKit Go.Shelf
set_option linter.unusedVariables false
attribute [local go_sem] Oper.semAt_some

theorem take_snoc {zs : List Int} {k : Nat} (h : k < zs.length) : zs.take (k + 1) = zs.take k ++ [zs.getD k 0] := by
  rw [List.take_succ_eq_append_getElem h]; simp [List.getD_eq_getElem?_getD, h]

set_option maxRecDepth 100000 in
set_option maxHeartbeats 2000000 in
theorem valIter_in (n : Nat) (hn : 1 ≤ n) (l : Nat) (w0 : World) (a : Option Addr) (cap : Nat) (zs : List Int) (Bs : Nat) (hm : zs.length ≤ 1000000) (hB : w0.cell? ⟨Bs, 0, none⟩ = some (.slice a zs.length cap)) (hR : Reads w0 (.slice a zs.length cap) zs)
    (J Jx : List Int → World → Prop) (W0 : World) (g0 : Kpt w0 W0)
    (hY : ∀ pre x W1, J pre W1 → pre.length < zs.length → YieldAt Fence.wide (n - 1) Try.prog l #[.int .i64 x] W1 fun e W' =>
      (e = .returned (.bool true) ∧ J (pre ++ [x]) W' ∧ Below w0.heap.size W1 W') ∨ (e = .returned (.bool false) ∧ Jx (pre ++ [x]) W'))
    (h0 : J [] W0) :
    CallsIn Fence.wide n Try.prog 118 #[.func (.yield l) #[] #[], .pointer (some ⟨Bs, 0, none⟩)] W0 fun e W' => (∃ v, e = .returned v) ∧
      ((∃ ys, ys = zs ∧ J ys W') ∨ (∃ pre, pre <+: zs ∧ Jx pre W')) := by
  have HR := Lib.hid hR.sl
  have c0 := g0.cell hB
  have G0 := Lib.hid g0
  have HY := Lib.hid hY
  have H0 : Hid (J (zs.take 0) W0) := by unfold Hid; rw [List.take_zero]; exact h0
  clear hR g0 hY hB h0
  refine callsIn_of_wp Try.func118 rfl trivial ?_ rfl
  simp only [Try.ntmps118, List.size_toArray, List.length_cons, List.length_nil, Nat.reduceAdd, Nat.reduceSub, Array.replicate_succ, Array.replicate_zero, List.push_toArray, List.append_toArray, List.nil_append, List.cons_append]
  gi_wp2
  clear c0
  gi_loopw [7] (fun i wr => ∃ k : Nat, k ≤ zs.length ∧ i = .int .i64 k ∧ Hid (J (zs.take k) wr) ∧ Hid (Kpt w0 wr)) (fun i _ => zs.length - (intOf i).toNat)
  case atStart => exact ⟨0, Nat.zero_le _, rfl, H0.out, G0.out⟩
  case round =>
    obtain ⟨k, hk, rfl, HJs, HG⟩ := hrel
    by_cases hlt : k < zs.length
    · obtain ⟨b, off, rfl, hc⟩ := HR.out k hlt
      have c1 := HG.out.cell hc
      have ht := take_snoc hlt
      have hlen : (zs.take k).length < zs.length := by rw [List.length_take]; omega
      have HP : Hid (zs.take (k + 1) <+: zs) := List.take_prefix _ _
      generalize zs.getD k 0 = x at c1 ht
      have HT := Lib.hid ht
      obtain ⟨fn, tmps, assign, body, hy, hR⟩ := HY.out (zs.take k) x wr HJs.out hlen
      have HRR := Lib.hid hR
      clear hR ht hc hlen
      gi_wp2
      refine HRR.out.mono ?_
      rintro e W3 (⟨rfl, hJ3, hk3⟩ | ⟨rfl, hJx3⟩)
      · gi_wp2
        go_roundw
        case rel => exact ⟨k + 1, by omega, by go_num, by unfold Hid; rw [HT.out]; exact hJ3, HG.out.trans hk3⟩
        case measure => simp [intOf]; omega
      · gi_wp2
        refine bodyPost_ret (results_none rfl _ _ _) rfl ?_
        exact ⟨⟨_, rfl⟩, .inr ⟨_, HP.out, by rw [HT.out]; exact hJx3⟩⟩
    · have hkl : k = zs.length := by omega
      have HF : Hid (J zs wr) := by have := HJs.out; rwa [hkl, List.take_length] at this
      clear HJs
      subst hkl
      gi_wp2
      go_end0
      exact ⟨⟨_, rfl⟩, .inl ⟨zs, rfl, HF.out⟩⟩

theorem val_stops (n : Nat) (hn : 1 ≤ n) (n₀ : Nat) (w w0 : World) (hw : w.heap.size = n₀) (a : Option Addr) (cap : Nat) (zs : List Int) (Bs : Nat) (hm : zs.length ≤ 1000000) (hB : w.cell? ⟨Bs, 0, none⟩ = some (.slice a zs.length cap)) (hR : Reads w (.slice a zs.length cap) zs) (hk : Kpt w w0) :
    SeqStopsK Fence.wide n Try.prog 118 #[.pointer (some ⟨Bs, 0, none⟩)] (fun x : Int => #[.int .i64 x]) (Below n₀) (fun ys => ys = zs) (fun pre => pre <+: zs) zs.length w0 := by
  intro l J Jx W0 hW hJ hJx hY h0
  subst hw
  exact valIter_in n hn l w a cap zs Bs hm hB hR J Jx W0 (ktr hk hW) hY h0

theorem values_run (a : Option Addr) (len cap : Nat) (w : World) :
    Calls Try.prog 76 #[.slice a len cap] w fun e w' => e = .returned (.func (.func 118) #[] #[.pointer (some ⟨w.heap.size, 0, none⟩)]) ∧ w' = w.alloc (.cells #[.slice a len cap] 22) := by
  go_enter Try.func76, Try.ntmps76
  go_wp2
  go_ret
  exact ⟨rfl, rfl⟩

set_option maxRecDepth 100000 in
set_option maxHeartbeats 2000000 in
theorem appendSeq_run (a : Option Addr) (cap : Nat) (zs : List Int) (Bs : Nat) (w : World) (hm : zs.length ≤ 1000000) (hB : w.cell? ⟨Bs, 0, none⟩ = some (.slice a zs.length cap)) (hR : Reads w (.slice a zs.length cap) zs) :
    Calls Try.prog 138 #[.slice none 0 0, .func (.func 118) #[] #[.pointer (some ⟨Bs, 0, none⟩)]] w fun e W' => ∃ v, e = .returned v ∧ Owns W' w.heap.size v zs ∧ Kpt w W' := by
  obtain ⟨i0, hi, hz0, hz1, hz2⟩ := info_parts Try.infoInt
  refine (callsIn_wide (n := 3)).1 ?_
  have ST := Lib.hid (fun w0 => val_stops 2 (by omega) w.heap.size w w0 rfl a cap zs Bs hm hB hR)
  clear hB hR
  refine callsIn_of_wp_marks Try.func138 rfl trivial ?_ rfl
  simp only [Try.ntmps138, List.size_toArray, List.length_cons, List.length_nil, Nat.reduceAdd, Nat.reduceSub, Array.replicate_succ, Array.replicate_zero, List.push_toArray, List.append_toArray, List.nil_append, List.cons_append]
  gi_wp2
  have bO := Boxed.new w 22 (.slice none 0 0)
  have hB0 : Below w.heap.size w (w.alloc (.cells #[.slice none 0 0] 22)) := (Below.refl _ w).alloc (Nat.le_refl _) _
  refine wpIn_rangeFunc_ownG rfl (by omega) (gf := 118) (lb := #[.pointer (some ⟨Bs, 0, none⟩)]) rfl trivial (enters_of Try.func118 (by kernel_rfl) rfl)
    (ST.out _ hB0) belowK_t (belowK_b (by simp)) (Below.refl _ _) (fun _ => rfl)
    (fun pre W => (∃ v, Boxed W w.heap.size 22 v ∧ W.ownsRow w.heap.size 3 1 v pre.length (pre.map (Value.int .i64)) ∧ True) ∧ Below w.heap.size w W)
    (fun _ _ _ => False)
    (OwnFrom.and (Own.from (holdsRow_own w.heap.size w.heap.size 22 3 1 (fun pre : List Int => pre.length) (fun pre : List Int => pre.map (Value.int .i64)) (fun _ _ => True)) _) (ownFrom_below (Nat.le_refl _) (by simp)))
    (fun _ _ _ _ _ hs _ _ => hs)
    ⟨⟨_, bO, World.ownsRow_nil _ _ _ _, trivial⟩, hB0⟩
    (fun x => { tmps := #[.slice none 0 0, .func (.func 118) #[] #[.pointer (some ⟨Bs, 0, none⟩)], .pointer (some ⟨w.heap.size, 0, none⟩), undef, .slice none 0 0, .int .i64 x, .func (.func 118) #[] #[.pointer (some ⟨Bs, 0, none⟩)], .int .i64 x, undef, undef, undef, undef, undef], defers := [] }) ?assign ?body ?done ?stop
  case assign =>
    intro l x W K hK
    gi_wp2
    exact hK
  case body =>
    rintro l pre x W ⟨⟨v, hv, hrow, -⟩, hB⟩ hlt
    have hc := hv.cell
    gi_wp2_with (gi_at_builtin; refine wpListIn_append_own _ rfl _ _ 22 rfl w.heap.size 3 i0 (.int .i64 0) 1 8 Try.underlying22 hi hz0 hz1 hz2 rfl (by decide) _ _ _ rfl (hrow.alloc _) ⟨W.heap.size, 0, none⟩ 1 1 [.int .i64 x] rfl rfl (cell_one_new _ _ _) (by simp [Value.oneCell']) (by unfold maxLen; omega) (by omega) (by have := hB.size; simp; omega) ?_; intro v' w1 hown' hgrow _; obtain ⟨g', cap', rfl⟩ := ownsRow_succ hown'; obtain ⟨hv1, hv2, hr2, hk2, hb2⟩ := hv.appended (by decide) hrow hB.size (Nat.le_refl _) hown' hgrow; have hc1 := hv1.cell; have hf1 := hv1.frozen)
    exact ⟨hk2.from _, hb2, ⟨_, hv2, by simpa using hr2, trivial⟩, hB.trans hb2⟩
  case done =>
    rintro D ys W hD rfl ⟨⟨v, hv, hrow, -⟩, hB⟩ hK
    have hc := hv.cell
    gi_wp2
    refine ⟨by simp, .inl ⟨_, _, rfl, run_takeDeferred hK, ?_⟩⟩
    exact ⟨_, results_tmp rfl _ _ _, v, rfl, ownsRow_putObj hrow _ hK rfl, hB.trans (belowK_b (w := w) (Nat.le_refl _) W D _ _ (by simp at hD; omega) hK rfl rfl)⟩
  case stop =>
    rintro D c pre W _ _ h _
    exact h.elim

theorem collect_run (a : Option Addr) (cap : Nat) (zs : List Int) (Bs : Nat) (w : World) (hm : zs.length ≤ 1000000) (hB : w.cell? ⟨Bs, 0, none⟩ = some (.slice a zs.length cap)) (hR : Reads w (.slice a zs.length cap) zs) :
    Calls Try.prog 116 #[.func (.func 118) #[] #[.pointer (some ⟨Bs, 0, none⟩)]] w fun e W' => ∃ v, e = .returned v ∧ Owns W' w.heap.size v zs ∧ Kpt w W' := by
  have AS := Lib.hid (appendSeq_run a cap zs Bs w hm hB hR)
  clear hB hR
  go_enter Try.func116, Try.ntmps116
  go_wp2_with (go_at_call 138; (with_reducible refine AS.out.mono ?_); rintro e w1 ⟨v, rfl, o1, k1⟩; have O1 := Lib.hid o1; have K1 := Lib.hid k1; clear o1 k1)
  go_ret
  exact ⟨_, rfl, O1.out, K1.out⟩

/-- the numbers, in order -/
def srt (zs : List Int) : List Int := zs.mergeSort fun x y => decide (x ≤ y)
theorem srt_len (zs : List Int) : (srt zs).length = zs.length := by unfold srt; simp
theorem srt_sorted (zs : List Int) : (srt zs).Pairwise (· ≤ ·) := by
  have h : (srt zs).Pairwise (fun a b => decide (a ≤ b) = true) := List.pairwise_mergeSort (fun a b c h g => decide_eq_true (by have := of_decide_eq_true h; have := of_decide_eq_true g; omega)) (fun a b => by
    by_cases h : a ≤ b
    · rw [decide_eq_true h]; rfl
    · rw [show decide (b ≤ a) = true from decide_eq_true (by omega), Bool.or_true]) _
  exact h.imp (fun h => of_decide_eq_true h)
theorem srt_is {zs ys : List Int} (h : ys.Perm zs) (g : ys.Pairwise (· ≤ ·)) : srt zs = ys :=
  List.Perm.eq_of_pairwise (fun a b _ _ h g => Int.le_antisymm h g) (srt_sorted zs) g ((List.mergeSort_perm _ _).trans h.symm)
theorem srt_perm (zs : List Int) : (srt zs).Perm zs := by unfold srt; exact List.mergeSort_perm _ _

set_option maxRecDepth 100000 in
theorem sorted_run (a : Option Addr) (cap : Nat) (zs : List Int) (Bs : Nat) (w : World) (h0 : 0 < zs.length) (hm : zs.length ≤ 1000000) (hB : w.cell? ⟨Bs, 0, none⟩ = some (.slice a zs.length cap)) (hR : Reads w (.slice a zs.length cap) zs) :
    Calls Try.prog 75 #[.func (.func 118) #[] #[.pointer (some ⟨Bs, 0, none⟩)]] w fun e W' => ∃ g c, e = .returned (.slice (some ⟨g, 0, none⟩) zs.length c) ∧ Reads W' (.slice (some ⟨g, 0, none⟩) zs.length c) (srt zs) ∧ Kpt w W' := by
  have CO := Lib.hid (collect_run a cap zs Bs w hm hB hR)
  have HL := Lib.hid (srt_len zs)
  clear hB hR
  have SO : Hid (∀ W v, Owns W w.heap.size v zs → Kpt w W → ∃ g c, v = .slice (some ⟨g, 0, none⟩) zs.length c ∧ Calls Try.prog 117 #[.slice (some ⟨g, 0, none⟩) zs.length c] W fun e W' => e = .returned (.tuple #[]) ∧ Reads W' (.slice (some ⟨g, 0, none⟩) zs.length c) (srt zs) ∧ Kpt w W') := by
    intro W v ho hk
    rcases ho.2 with ⟨rfl, hz⟩ | ⟨gb, c, cur, rfl, hbase, hgb, r1, r2, r3, r4⟩
    · omega
    · refine ⟨gb, c, rfl, ?_⟩
      have hH : Go.Sort.Holds (Value.int .i64) W gb 0 zs.toArray := holds_of_blockI hgb (by simpa using r4)
      refine (Try.slices_Sort_int gb 0 c zs W hH (Array.getElem?_eq_some_iff.1 hgb).1 (by omega)).mono ?_
      rintro e w' ⟨rfl, nn, os, rfl⟩
      have ho2 : Owns (Go.Sort.grow (Go.Sort.putRow (Value.int .i64) (Go.Sort.ahead W nn) gb 0 (srt zs).toArray) os) w.heap.size (.slice (some ⟨gb, 0, none⟩) (srt zs).length c) (srt zs) := by
        rw [HL.out]
        unfold Owns
        rw [HL.out]
        exact ownsRow_sortedI (n := nn) (os := os) (srt_len zs) hbase hgb r1 r2 r3
      obtain ⟨a', c', e', hr⟩ := ho2.reads
      rw [HL.out] at hr e'
      injection e' with e1 e2 e3
      subst e1 e3
      exact ⟨rfl, hr, hk.grown (grownBy_sortedI _) hk.size (fun j hj => by cases hj; exact hbase)⟩
  go_enter Try.func75, Try.ntmps75
  go_wp2_with (first
    | (go_at_call 116; (with_reducible refine CO.out.mono ?_); rintro e w1 ⟨v, rfl, o1, k1⟩; obtain ⟨g, c, rfl, s1⟩ := SO.out _ _ o1 k1; have S1 := Lib.hid s1; clear o1 k1 s1)
    | (go_at_call 117; (with_reducible refine S1.out.mono ?_); rintro e w2 ⟨rfl, r2, k2⟩; have R2 := Lib.hid r2; have K2 := Lib.hid k2; clear r2 k2))
  go_ret
  exact ⟨_, _, rfl, R2.out, K2.out⟩

end Go.Proofs.Ytgccipmeiceonaa
