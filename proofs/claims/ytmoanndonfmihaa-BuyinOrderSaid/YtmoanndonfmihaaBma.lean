/-
  Merged: SlV, BackMath, SlB, LoanA, LoanB, LoanC, LoanD, LoanF, LoanG.
-/
import Derived.RangeFuncBox
import Derived.RangeFuncNested
import Derived.RangeFuncBound
import Derived.RangeFuncCalls
import Derived.RangeFuncLeaves
import Derived.RangeFuncFrom
import Derived.RangeFuncWrites
import Derived.Shelf.Abstract
import Derived.Shelf.RegionOpen
import Derived.OwnWalkIn
import Derived.TacticsInMore
import Derived.LoopNIn
import Derived.LoopIn
import Derived.Maps.AppendAt
import Derived.Sort.OwnSortedInts
import Derived.Test.YtmoanndonfmihaaShelf
import Derived.Test.YtmoanndonfmihaaOwn
import Derived.Test.YtmoanndonfmihaaKept
import Derived.Test.YtmoanndonfmihaaSl
import Derived.Test.YtmoanndonfmihaaBase
import Derived.Test.YtmoanndonfmihaaPriceK
import Derived.Test.YtmoanndonfmihaaTrip
import Derived.Test.YtmoanndonfmihaaSortC
import Derived.Test.YtmoanndonfmihaaStabF
import Derived.Test.YtmoanndonfmihaaFirstMath
import Derived.Test.YtmoanndonfmihaaPartsAll
-- SlV
namespace Go.Proofs.Ytmoanndonfmihaa
open Go.RowKit Go.Shelf
set_option linter.unusedVariables false
attribute [local go_sem] Oper.semAt_some

theorem take_snoc {zs : List Int} {k : Nat} (h : k < zs.length) : zs.take (k + 1) = zs.take k ++ [zs.getD k 0] := by
  rw [List.take_succ_eq_append_getElem h]; simp [List.getD_eq_getElem?_getD, h]

set_option maxRecDepth 100000 in
set_option maxHeartbeats 2000000 in
theorem valIter_in (n : Nat) (hn : 1 ≤ n) (l : Nat) (w0 : World) (a : Option Addr) (cap : Nat) (zs : List Int) (Bs : Nat) (hm : zs.length ≤ 1000000) (hB : w0.cell? ⟨Bs, 0, none⟩ = some (.slice a zs.length cap)) (hR : Reads w0 (.slice a zs.length cap) zs)
    (J Jx : List Int → World → Prop) (W0 : World) (g0 : Kpt w0 W0)
    (hY : ∀ pre x W1, J pre W1 → pre.length < zs.length → YieldAt Fence.wide (n - 1) Try.prog l #[.int .i64 x] W1 fun e W' =>
      (e = .returned (.bool true) ∧ J (pre ++ [x]) W' ∧ Below w0.heap.size W1 W') ∨ (e = .returned (.bool false) ∧ Jx (pre ++ [x]) W'))
    (h0 : J [] W0) :
    CallsIn Fence.wide n Try.prog 133 #[.func (.yield l) #[] #[], .pointer (some ⟨Bs, 0, none⟩)] W0 fun e W' => (∃ v, e = .returned v) ∧
      ((∃ ys, ys = zs ∧ J ys W') ∨ (∃ pre, pre <+: zs ∧ Jx pre W')) := by
  have HR := Lib.hid hR.sl
  have c0 := g0.cell hB
  have G0 := Lib.hid g0
  have HY := Lib.hid hY
  have H0 : Hid (J (zs.take 0) W0) := by unfold Hid; rw [List.take_zero]; exact h0
  clear hR g0 hY hB h0
  refine callsIn_of_wp Try.func133 rfl trivial ?_ rfl
  simp only [Try.ntmps133, List.size_toArray, List.length_cons, List.length_nil, Nat.reduceAdd, Nat.reduceSub, Array.replicate_succ, Array.replicate_zero, List.push_toArray, List.append_toArray, List.nil_append, List.cons_append]
  gi_wp2
  clear c0
  gi_loopw [7] (fun i wr => ∃ k : Nat, k ≤ zs.length ∧ i = .int .i64 k ∧ Hid (J (zs.take k) wr) ∧ Hid (Kpt w0 wr)) (fun i _ => zs.length - (intOf i).toNat)
  case atStart => exact ⟨0, Nat.zero_le _, rfl, H0.out, G0.out⟩
  case round =>
    obtain ⟨k, hk, rfl, HJs, HG⟩ := hrel
    by_cases hlt : k < zs.length
    · obtain ⟨b, off, rfl, hc⟩ := HR.out k hlt
      have c1 := HG.out.cell hc
      have ht := take_snoc hlt
      have hlen : (zs.take k).length < zs.length := by rw [List.length_take]; omega
      have HP : Hid (zs.take (k + 1) <+: zs) := List.take_prefix _ _
      generalize zs.getD k 0 = x at c1 ht
      have HT := Lib.hid ht
      obtain ⟨fn, tmps, assign, body, hy, hR⟩ := HY.out (zs.take k) x wr HJs.out hlen
      have HRR := Lib.hid hR
      clear hR ht hc hlen
      gi_wp2
      refine HRR.out.mono ?_
      rintro e W3 (⟨rfl, hJ3, hk3⟩ | ⟨rfl, hJx3⟩)
      · gi_wp2
        go_roundw
        case rel => exact ⟨k + 1, by omega, by go_num, by unfold Hid; rw [HT.out]; exact hJ3, HG.out.trans hk3⟩
        case measure => simp [intOf]; omega
      · gi_wp2
        refine bodyPost_ret (results_none rfl _ _ _) rfl ?_
        exact ⟨⟨_, rfl⟩, .inr ⟨_, HP.out, by rw [HT.out]; exact hJx3⟩⟩
    · have hkl : k = zs.length := by omega
      have HF : Hid (J zs wr) := by have := HJs.out; rwa [hkl, List.take_length] at this
      clear HJs
      subst hkl
      gi_wp2
      go_end0
      exact ⟨⟨_, rfl⟩, .inl ⟨zs, rfl, HF.out⟩⟩

theorem val_stops (n : Nat) (hn : 1 ≤ n) (n₀ : Nat) (w w0 : World) (hw : w.heap.size = n₀) (a : Option Addr) (cap : Nat) (zs : List Int) (Bs : Nat) (hm : zs.length ≤ 1000000) (hB : w.cell? ⟨Bs, 0, none⟩ = some (.slice a zs.length cap)) (hR : Reads w (.slice a zs.length cap) zs) (hk : Kpt w w0) :
    SeqStopsK Fence.wide n Try.prog 133 #[.pointer (some ⟨Bs, 0, none⟩)] (fun x : Int => #[.int .i64 x]) (Below n₀) (fun ys => ys = zs) (fun pre => pre <+: zs) zs.length w0 := by
  intro l J Jx W0 hW hJ hJx hY h0
  subst hw
  exact valIter_in n hn l w a cap zs Bs hm hB hR J Jx W0 (ktr hk hW) hY h0

theorem values_run (a : Option Addr) (len cap : Nat) (w : World) :
    Calls Try.prog 98 #[.slice a len cap] w fun e w' => e = .returned (.func (.func 133) #[] #[.pointer (some ⟨w.heap.size, 0, none⟩)]) ∧ w' = w.alloc (.cells #[.slice a len cap] 22) := by
  go_enter Try.func98, Try.ntmps98
  go_wp2
  go_ret
  exact ⟨rfl, rfl⟩

set_option maxRecDepth 100000 in
set_option maxHeartbeats 2000000 in
theorem appendSeq_run (a : Option Addr) (cap : Nat) (zs : List Int) (Bs : Nat) (w : World) (hm : zs.length ≤ 1000000) (hB : w.cell? ⟨Bs, 0, none⟩ = some (.slice a zs.length cap)) (hR : Reads w (.slice a zs.length cap) zs) :
    Calls Try.prog 156 #[.slice none 0 0, .func (.func 133) #[] #[.pointer (some ⟨Bs, 0, none⟩)]] w fun e W' => ∃ v, e = .returned v ∧ Owns W' w.heap.size v zs ∧ Kpt w W' := by
  obtain ⟨i0, hi, hz0, hz1, hz2⟩ := info_parts Try.infoInt
  refine (callsIn_wide (n := 3)).1 ?_
  have ST := Lib.hid (fun w0 => val_stops 2 (by omega) w.heap.size w w0 rfl a cap zs Bs hm hB hR)
  clear hB hR
  refine callsIn_of_wp_marks Try.func156 rfl trivial ?_ rfl
  simp only [Try.ntmps156, List.size_toArray, List.length_cons, List.length_nil, Nat.reduceAdd, Nat.reduceSub, Array.replicate_succ, Array.replicate_zero, List.push_toArray, List.append_toArray, List.nil_append, List.cons_append]
  gi_wp2
  have bO := Boxed.new w 22 (.slice none 0 0)
  have hB0 : Below w.heap.size w (w.alloc (.cells #[.slice none 0 0] 22)) := (Below.refl _ w).alloc (Nat.le_refl _) _
  refine wpIn_rangeFunc_ownG rfl (by omega) (gf := 133) (lb := #[.pointer (some ⟨Bs, 0, none⟩)]) rfl trivial (enters_of Try.func133 (by kernel_rfl) rfl)
    (ST.out _ hB0) belowK_t (belowK_b (by simp)) (Below.refl _ _) (fun _ => rfl)
    (fun pre W => (∃ v, Boxed W w.heap.size 22 v ∧ W.ownsRow w.heap.size 3 1 v pre.length (pre.map (Value.int .i64)) ∧ True) ∧ Below w.heap.size w W)
    (fun _ _ _ => False)
    (OwnFrom.and (Own.from (holdsRow_own w.heap.size w.heap.size 22 3 1 (fun pre : List Int => pre.length) (fun pre : List Int => pre.map (Value.int .i64)) (fun _ _ => True)) _) (ownFrom_below (Nat.le_refl _) (by simp)))
    (fun _ _ _ _ _ hs _ _ => hs)
    ⟨⟨_, bO, World.ownsRow_nil _ _ _ _, trivial⟩, hB0⟩
    (fun x => { tmps := #[.slice none 0 0, .func (.func 133) #[] #[.pointer (some ⟨Bs, 0, none⟩)], .pointer (some ⟨w.heap.size, 0, none⟩), undef, .slice none 0 0, .int .i64 x, .func (.func 133) #[] #[.pointer (some ⟨Bs, 0, none⟩)], .int .i64 x, undef, undef, undef, undef, undef], defers := [] }) ?assign ?body ?done ?stop
  case assign =>
    intro l x W K hK
    gi_wp2
    exact hK
  case body =>
    rintro l pre x W ⟨⟨v, hv, hrow, -⟩, hB⟩ hlt
    have hc := hv.cell
    gi_wp2_with (gi_at_builtin; refine wpListIn_append_own _ rfl _ _ 22 rfl w.heap.size 3 i0 (.int .i64 0) 1 8 Try.underlying22 hi hz0 hz1 hz2 rfl (by decide) _ _ _ rfl (hrow.alloc _) ⟨W.heap.size, 0, none⟩ 1 1 [.int .i64 x] rfl rfl (cell_one_new _ _ _) (by simp [Value.oneCell']) (by unfold maxLen; omega) (by omega) (by have := hB.size; simp; omega) ?_; intro v' w1 hown' hgrow _; obtain ⟨g', cap', rfl⟩ := ownsRow_succ hown'; obtain ⟨hv1, hv2, hr2, hk2, hb2⟩ := hv.appended (by decide) hrow hB.size (Nat.le_refl _) hown' hgrow; have hc1 := hv1.cell; have hf1 := hv1.frozen)
    exact ⟨hk2.from _, hb2, ⟨_, hv2, by simpa using hr2, trivial⟩, hB.trans hb2⟩
  case done =>
    rintro D ys W hD rfl ⟨⟨v, hv, hrow, -⟩, hB⟩ hK
    have hc := hv.cell
    gi_wp2
    refine ⟨by simp, .inl ⟨_, _, rfl, run_takeDeferred hK, ?_⟩⟩
    exact ⟨_, results_tmp rfl _ _ _, v, rfl, ownsRow_putObj hrow _ hK rfl, hB.trans (belowK_b (w := w) (Nat.le_refl _) W D _ _ (by simp at hD; omega) hK rfl rfl)⟩
  case stop =>
    rintro D c pre W _ _ h _
    exact h.elim

theorem collect_run (a : Option Addr) (cap : Nat) (zs : List Int) (Bs : Nat) (w : World) (hm : zs.length ≤ 1000000) (hB : w.cell? ⟨Bs, 0, none⟩ = some (.slice a zs.length cap)) (hR : Reads w (.slice a zs.length cap) zs) :
    Calls Try.prog 131 #[.func (.func 133) #[] #[.pointer (some ⟨Bs, 0, none⟩)]] w fun e W' => ∃ v, e = .returned v ∧ Owns W' w.heap.size v zs ∧ Kpt w W' := by
  have AS := Lib.hid (appendSeq_run a cap zs Bs w hm hB hR)
  clear hB hR
  go_enter Try.func131, Try.ntmps131
  go_wp2_with (go_at_call 156; (with_reducible refine AS.out.mono ?_); rintro e w1 ⟨v, rfl, o1, k1⟩; have O1 := Lib.hid o1; have K1 := Lib.hid k1; clear o1 k1)
  go_ret
  exact ⟨_, rfl, O1.out, K1.out⟩

/-- the numbers, in order -/
def srt (zs : List Int) : List Int := zs.mergeSort fun x y => decide (x ≤ y)
theorem srt_len (zs : List Int) : (srt zs).length = zs.length := by unfold srt; simp
theorem srt_sorted (zs : List Int) : (srt zs).Pairwise (· ≤ ·) := by
  have h : (srt zs).Pairwise (fun a b => decide (a ≤ b) = true) := List.pairwise_mergeSort (fun a b c h g => decide_eq_true (by have := of_decide_eq_true h; have := of_decide_eq_true g; omega)) (fun a b => by
    by_cases h : a ≤ b
    · rw [decide_eq_true h]; rfl
    · rw [show decide (b ≤ a) = true from decide_eq_true (by omega), Bool.or_true]) _
  exact h.imp (fun h => of_decide_eq_true h)
theorem srt_is {zs ys : List Int} (h : ys.Perm zs) (g : ys.Pairwise (· ≤ ·)) : srt zs = ys :=
  List.Perm.eq_of_pairwise (fun a b _ _ h g => Int.le_antisymm h g) (srt_sorted zs) g ((List.mergeSort_perm _ _).trans h.symm)
theorem srt_perm (zs : List Int) : (srt zs).Perm zs := by unfold srt; exact List.mergeSort_perm _ _

set_option maxRecDepth 100000 in
theorem sorted_run (a : Option Addr) (cap : Nat) (zs : List Int) (Bs : Nat) (w : World) (h0 : 0 < zs.length) (hm : zs.length ≤ 1000000) (hB : w.cell? ⟨Bs, 0, none⟩ = some (.slice a zs.length cap)) (hR : Reads w (.slice a zs.length cap) zs) :
    Calls Try.prog 97 #[.func (.func 133) #[] #[.pointer (some ⟨Bs, 0, none⟩)]] w fun e W' => ∃ g c, e = .returned (.slice (some ⟨g, 0, none⟩) zs.length c) ∧ Reads W' (.slice (some ⟨g, 0, none⟩) zs.length c) (srt zs) ∧ Kpt w W' := by
  have CO := Lib.hid (collect_run a cap zs Bs w hm hB hR)
  have HL := Lib.hid (srt_len zs)
  clear hB hR
  have SO : Hid (∀ W v, Owns W w.heap.size v zs → Kpt w W → ∃ g c, v = .slice (some ⟨g, 0, none⟩) zs.length c ∧ Calls Try.prog 132 #[.slice (some ⟨g, 0, none⟩) zs.length c] W fun e W' => e = .returned (.tuple #[]) ∧ Reads W' (.slice (some ⟨g, 0, none⟩) zs.length c) (srt zs) ∧ Kpt w W') := by
    intro W v ho hk
    rcases ho.2 with ⟨rfl, hz⟩ | ⟨gb, c, cur, rfl, hbase, hgb, r1, r2, r3, r4⟩
    · omega
    · refine ⟨gb, c, rfl, ?_⟩
      have hH : Go.Sort.Holds (Value.int .i64) W gb 0 zs.toArray := holds_of_blockI hgb (by simpa using r4)
      refine (Try.slices_Sort_int gb 0 c zs W hH (Array.getElem?_eq_some_iff.1 hgb).1 (by omega)).mono ?_
      rintro e w' ⟨rfl, nn, os, rfl⟩
      have ho2 : Owns (Go.Sort.grow (Go.Sort.putRow (Value.int .i64) (Go.Sort.ahead W nn) gb 0 (srt zs).toArray) os) w.heap.size (.slice (some ⟨gb, 0, none⟩) (srt zs).length c) (srt zs) := by
        rw [HL.out]
        unfold Owns
        rw [HL.out]
        exact ownsRow_sortedI (n := nn) (os := os) (srt_len zs) hbase hgb r1 r2 r3
      obtain ⟨a', c', e', hr⟩ := ho2.reads
      rw [HL.out] at hr e'
      injection e' with e1 e2 e3
      subst e1 e3
      exact ⟨rfl, hr, hk.grown (grownBy_sortedI _) hk.size (fun j hj => by cases hj; exact hbase)⟩
  go_enter Try.func97, Try.ntmps97
  go_wp2_with (first
    | (go_at_call 131; (with_reducible refine CO.out.mono ?_); rintro e w1 ⟨v, rfl, o1, k1⟩; obtain ⟨g, c, rfl, s1⟩ := SO.out _ _ o1 k1; have S1 := Lib.hid s1; clear o1 k1 s1)
    | (go_at_call 132; (with_reducible refine S1.out.mono ?_); rintro e w2 ⟨rfl, r2, k2⟩; have R2 := Lib.hid r2; have K2 := Lib.hid k2; clear r2 k2))
  go_ret
  exact ⟨_, _, rfl, R2.out, K2.out⟩

end Go.Proofs.Ytmoanndonfmihaa

-- BackMath
namespace Go.Proofs.Ytmoanndonfmihaa
set_option linter.unusedVariables false

/-- what is left of each, one behind the other, when so many have come back -/
def bkR : List Int → Int → List Int
  | [], _ => []
  | m :: l, u => (m - min u m) :: bkR l (u - min u m)
/-- how many have come back to nobody -/
def rsR : List Int → Int → Int
  | [], u => u
  | m :: l, u => rsR l (u - min u m)
theorem bkR_len : ∀ (l : List Int) (u : Int), (bkR l u).length = l.length
  | [], _ => rfl
  | m :: l, u => by simp [bkR, bkR_len l]
theorem rsR_snoc : ∀ (l : List Int) (u m : Int), rsR (l ++ [m]) u = rsR l u - min (rsR l u) m
  | [], _, _ => rfl
  | x :: l, u, m => by simp only [List.cons_append, rsR]; exact rsR_snoc l _ m
theorem rsR_nn : ∀ (l : List Int) (u : Int), 0 ≤ u → 0 ≤ rsR l u
  | [], u, h => h
  | m :: l, u, h => by simp only [rsR]; exact rsR_nn l _ (by omega)
theorem rsR_le : ∀ (l : List Int) (u : Int), (∀ m ∈ l, 0 ≤ m) → 0 ≤ u → rsR l u ≤ u
  | [], u, _, _ => Int.le_refl _
  | m :: l, u, h, h0 => by
    have hm := h m (by simp)
    have := rsR_le l (u - min u m) (fun x hx => h x (by simp [hx])) (by omega)
    simp only [rsR]; omega
theorem lsum_nn : ∀ (l : List Int), (∀ m ∈ l, 0 ≤ m) → 0 ≤ l.sum
  | [], _ => by simp
  | m :: l, h => by
    have := h m (by simp)
    have := lsum_nn l (fun x hx => h x (by simp [hx]))
    simp only [List.sum_cons]; omega
theorem rsR_is : ∀ (l : List Int) (u : Int), (∀ m ∈ l, 0 ≤ m) → 0 ≤ u → rsR l u = max 0 (u - l.sum)
  | [], u, _, h0 => by simp [rsR]; omega
  | m :: l, u, h, h0 => by
    have hm := h m (by simp)
    have hs := lsum_nn l (fun x hx => h x (by simp [hx]))
    have := rsR_is l (u - min u m) (fun x hx => h x (by simp [hx])) (by omega)
    simp only [rsR, List.sum_cons, this]; omega
theorem bkR_sum : ∀ (l : List Int) (u : Int), (bkR l u).sum = l.sum - (u - rsR l u)
  | [], u => by simp [bkR, rsR]
  | m :: l, u => by
    have := bkR_sum l (u - min u m)
    simp only [bkR, rsR, List.sum_cons, this]; omega
theorem bkR_bd : ∀ (l : List Int) (u : Int), (∀ m ∈ l, 0 ≤ m) → 0 ≤ u → ∀ j, 0 ≤ (bkR l u).getD j 0 ∧ (bkR l u).getD j 0 ≤ l.getD j 0
  | [], u, _, _, j => by simp [bkR]
  | m :: l, u, h, h0, j => by
    have hm := h m (by simp)
    cases j with
    | zero => simp [bkR]; omega
    | succ j => simpa [bkR] using bkR_bd l (u - min u m) (fun x hx => h x (by simp [hx])) (by omega) j
theorem bkR_at : ∀ (l : List Int) (u : Int) (j : Nat), j < l.length → (bkR l u).getD j 0 = l.getD j 0 - min (rsR (l.take j) u) (l.getD j 0)
  | [], _, j, h => by simp at h
  | m :: l, u, 0, _ => by simp [bkR, rsR]
  | m :: l, u, j + 1, h => by
    have := bkR_at l (u - min u m) j (by simpa using h)
    simpa [bkR, rsR] using this
theorem bkR_zero : ∀ (l : List Int), (∀ m ∈ l, 0 ≤ m) → bkR l 0 = l
  | [], _ => rfl
  | m :: l, h => by
    have hm := h m (by simp)
    have e : min 0 m = 0 := by omega
    simp only [bkR, e, Int.sub_zero]
    rw [bkR_zero l (fun x hx => h x (by simp [hx]))]
theorem bkR_bkR : ∀ (l : List Int) (a b : Int), (∀ m ∈ l, 0 ≤ m) → 0 ≤ a → 0 ≤ b → bkR (bkR l a) b = bkR l (a + b) ∨ l.sum < a
  | [], _, _, _, _, _ => .inl rfl
  | m :: l, a, b, h, ha, hb => by
    have hm := h m (by simp)
    have hl : ∀ x ∈ l, 0 ≤ x := fun x hx => h x (by simp [hx])
    by_cases hc : (m :: l).sum < a
    · exact .inr hc
    · refine .inl ?_
      simp only [List.sum_cons] at hc
      simp only [bkR]
      by_cases e : a ≤ m
      · have e1 : min a m = a := by omega
        rw [e1]
        rw [show a - a = 0 by omega, bkR_zero l hl]
        rw [show m - a - min b (m - a) = m - min (a + b) m by omega, show a + b - min (a + b) m = b - min b (m - a) by omega]
      · have e1 : min a m = m := by omega
        have e2 : min (a + b) m = m := by omega
        rw [e1, e2, show m - m - min b (m - m) = m - m by omega, show b - min b (m - m) = b by omega]
        rcases bkR_bkR l (a - m) b hl (by omega) hb with h1 | h1
        · rw [h1, show a - m + b = a + b - m by omega]
        · omega
theorem bkR_first : ∀ (l : List Int) (u : Int), (∀ m ∈ l, 0 ≤ m) → 0 ≤ u → ∀ i k, i < k → (bkR l u).getD k 0 < l.getD k 0 → (bkR l u).getD i 0 = 0
  | [], u, _, _, i, k, _, h => by simp [bkR] at h
  | m :: l, u, hm', h0, i, k, hik, h => by
    have hm := hm' m (by simp)
    have hl : ∀ x ∈ l, 0 ≤ x := fun x hx => hm' x (by simp [hx])
    cases k with
    | zero => omega
    | succ k =>
      have hk : (bkR l (u - min u m)).getD k 0 < l.getD k 0 := by simpa [bkR] using h
      cases i with
      | zero =>
        by_cases e : u ≤ m
        · exfalso
          rw [show u - min u m = 0 by omega, bkR_zero l hl] at hk
          omega
        · simp [bkR]; omega
      | succ i => simpa [bkR] using bkR_first l (u - min u m) hl (by omega) i k (by omega) hk

/-- what is lent still by each, the last one first -/
def bkL (zs : List Int) (u : Int) : List Int := (bkR zs.reverse u).reverse
def rsL (zs : List Int) (u : Int) (j : Nat) : Int := rsR (zs.reverse.take j) u
theorem bkL_len (zs : List Int) (u : Int) : (bkL zs u).length = zs.length := by simp [bkL, bkR_len]
theorem rev_getD (l : List Int) (j : Nat) (h : j < l.length) : l.reverse.getD j 0 = l.getD (l.length - 1 - j) 0 := by
  simp only [List.getD_eq_getElem?_getD]
  rw [List.getElem?_reverse h]
theorem bkL_at (zs : List Int) (u : Int) (j : Nat) (h : j < zs.length) : (bkL zs u).getD (zs.length - 1 - j) 0 = zs.getD (zs.length - 1 - j) 0 - min (rsL zs u j) (zs.getD (zs.length - 1 - j) 0) := by
  unfold bkL rsL
  rw [rev_getD _ _ (by rw [bkR_len, List.length_reverse]; omega), bkR_len, List.length_reverse, show zs.length - 1 - (zs.length - 1 - j) = j by omega, bkR_at _ _ _ (by rw [List.length_reverse]; exact h), rev_getD _ _ h]
theorem rsL_zero (zs : List Int) (u : Int) : rsL zs u 0 = u := by simp [rsL, rsR]
theorem rsL_succ (zs : List Int) (u : Int) (j : Nat) (h : j < zs.length) : rsL zs u (j + 1) = rsL zs u j - min (rsL zs u j) (zs.getD (zs.length - 1 - j) 0) := by
  unfold rsL
  rw [List.take_succ_eq_append_getElem (by rw [List.length_reverse]; exact h), rsR_snoc]
  rw [← rev_getD _ _ h]
  simp [List.getD_eq_getElem?_getD, h]
theorem rsL_all (zs : List Int) (u : Int) (hz : ∀ m ∈ zs, 0 ≤ m) (hu : 0 ≤ u) : rsL zs u zs.length = max 0 (u - zs.sum) := by
  unfold rsL
  rw [List.take_of_length_le (by simp), rsR_is _ _ (by simpa using hz) hu, List.sum_reverse]
theorem rsL_bd (zs : List Int) (u : Int) (hz : ∀ m ∈ zs, 0 ≤ m) (hu : 0 ≤ u) (j : Nat) : 0 ≤ rsL zs u j ∧ rsL zs u j ≤ u :=
  ⟨rsR_nn _ _ hu, rsR_le _ _ (fun m hm => hz m (by simpa using List.mem_of_mem_take hm)) hu⟩
theorem bkL_sum (zs : List Int) (u : Int) (hz : ∀ m ∈ zs, 0 ≤ m) (hu : 0 ≤ u) (h : u ≤ zs.sum) : (bkL zs u).sum = zs.sum - u := by
  unfold bkL
  rw [List.sum_reverse, bkR_sum, rsR_is _ _ (by simpa using hz) hu, List.sum_reverse]
  omega
theorem bkL_bd (zs : List Int) (u : Int) (hz : ∀ m ∈ zs, 0 ≤ m) (hu : 0 ≤ u) (i : Nat) (hi : i < zs.length) : 0 ≤ (bkL zs u).getD i 0 ∧ (bkL zs u).getD i 0 ≤ zs.getD i 0 := by
  have := bkR_bd zs.reverse u (by simpa using hz) hu (zs.length - 1 - i)
  rw [rev_getD _ _ (by omega), show zs.length - 1 - (zs.length - 1 - i) = i by omega] at this
  unfold bkL
  rw [rev_getD _ _ (by rw [bkR_len, List.length_reverse]; omega), bkR_len, List.length_reverse]
  exact this
theorem bkL_bkL (zs : List Int) (a b : Int) (hz : ∀ m ∈ zs, 0 ≤ m) (ha : 0 ≤ a) (hb : 0 ≤ b) (h : a ≤ zs.sum) : bkL (bkL zs a) b = bkL zs (a + b) := by
  unfold bkL
  rw [List.reverse_reverse]
  rcases bkR_bkR zs.reverse a b (by simpa using hz) ha hb with e | e
  · rw [e]
  · rw [List.sum_reverse] at e; omega
theorem bkL_first (zs : List Int) (u : Int) (hz : ∀ m ∈ zs, 0 ≤ m) (hu : 0 ≤ u) (i k : Nat) (hk : k < i) (hi : i < zs.length) (h : (bkL zs u).getD k 0 < zs.getD k 0) : (bkL zs u).getD i 0 = 0 := by
  have e : ∀ q, q < zs.length → (bkL zs u).getD q 0 = (bkR zs.reverse u).getD (zs.length - 1 - q) 0 := fun q hq => by
    unfold bkL
    rw [rev_getD _ _ (by rw [bkR_len, List.length_reverse]; omega), bkR_len, List.length_reverse]
  rw [e i hi]
  rw [e k (by omega)] at h
  refine bkR_first zs.reverse u (by simpa using hz) hu (zs.length - 1 - i) (zs.length - 1 - k) (by omega) ?_
  rw [rev_getD _ _ (by omega), show zs.length - 1 - (zs.length - 1 - k) = k by omega]
  exact h
/-- the first k of one list, the others of another one -/
def mixT (xs ys : List Int) (k : Nat) : List Int := xs.take k ++ ys.drop k
theorem mixT_len (xs ys : List Int) (h : xs.length = ys.length) (k : Nat) (hk : k ≤ xs.length) : (mixT xs ys k).length = xs.length := by simp [mixT]; omega
theorem mixT_all (xs ys : List Int) (h : xs.length = ys.length) : mixT xs ys xs.length = xs := by unfold mixT; rw [List.take_length, h, List.drop_length, List.append_nil]
theorem mixT_none (xs ys : List Int) : mixT xs ys 0 = ys := by simp [mixT]
theorem mixT_at (xs ys : List Int) (h : xs.length = ys.length) (k : Nat) (hk : k < xs.length) : (mixT xs ys (k + 1)).getD k 0 = xs.getD k 0 := by
  unfold mixT
  simp only [List.getD_eq_getElem?_getD]
  rw [List.getElem?_append_left (by simp; omega)]
  simp [hk]
theorem mixT_put (xs ys : List Int) (h : xs.length = ys.length) (k : Nat) (hk : k < xs.length) : (mixT xs ys (k + 1)).set k (ys.getD k 0) = mixT xs ys k := by
  apply List.ext_getElem?
  intro i
  rw [List.getElem?_set]
  have hl := mixT_len xs ys h (k + 1) (by omega)
  by_cases e : k = i
  · subst e
    rw [if_pos rfl, if_pos (by omega)]
    unfold mixT
    rw [List.getElem?_append_right (by simp; omega)]
    simp only [List.length_take, List.getElem?_drop, List.getD_eq_getElem?_getD]
    rw [show k + (k - min k xs.length) = k by omega, List.getElem?_eq_getElem (by omega)]; rfl
  · rw [if_neg e]
    unfold mixT
    by_cases g : i < k
    · rw [List.getElem?_append_left (by simp; omega), List.getElem?_append_left (by simp; omega), List.getElem?_take, List.getElem?_take, if_pos (by omega), if_pos g]
    · rw [List.getElem?_append_right (by simp; omega), List.getElem?_append_right (by simp; omega)]
      simp only [List.length_take, List.getElem?_drop]
      congr 1; omega

end Go.Proofs.Ytmoanndonfmihaa

-- SlB
namespace Go.Proofs.Ytmoanndonfmihaa
open Go.RowKit Go.Shelf
set_option linter.unusedVariables false
attribute [local go_sem] Oper.semAt_some

/-- the places, from the last one on: k of them -/
def bwd (n k : Nat) : List (Fin n) := (List.finRange n).reverse.take k
theorem bwd_len {n k : Nat} (h : k ≤ n) : (bwd n k).length = k := by simp [bwd]; omega
theorem bwd_succ {n k : Nat} (h : k < n) : bwd n (k + 1) = bwd n k ++ [⟨n - 1 - k, by omega⟩] := by
  unfold bwd
  rw [List.take_succ_eq_append_getElem (by simpa using h)]
  congr 2
  rw [List.getElem_reverse]
  simp
theorem bwd_pre {n k m : Nat} (h : k ≤ m) : bwd n k <+: bwd n m := by
  unfold bwd
  exact List.take_prefix_take_left h

/-- a round keeps what lay below, and a box -/
def KpB (n₀ B : Nat) (W W' : World) : Prop := Below n₀ W W' ∧ W'.heap[B]? = W.heap[B]?
theorem KpB.t {n₀ B : Nat} {X Y Z : World} (h : KpB n₀ B X Y) (k : KpB n₀ B Y Z) : KpB n₀ B X Z := ⟨h.1.trans k.1, k.2.trans h.2⟩
theorem KpB.b {n₀ B : Nat} {w : World} (hn : n₀ ≤ w.heap.size) (hB : B < w.heap.size) (W : World) (l : Nat) (o o' : Obj) (hl : w.heap.size ≤ l) (h : W.heap[l]? = some o) (h1 : o.isCells = false) (h2 : o.isWalk = false) : KpB n₀ B W (W.putObj l o') :=
  ⟨belowK_b hn W l o o' hl h h1 h2, World.putObj_heap_other (by omega)⟩
theorem cell_same {W W' : World} {B o : Nat} (h : W'.heap[B]? = W.heap[B]?) : W'.cell? ⟨B, o, none⟩ = W.cell? ⟨B, o, none⟩ := by simp [World.cell?, h]

end Go.Proofs.Ytmoanndonfmihaa

-- LoanA
namespace Go.Proofs.Ytmoanndonfmihaa
open Go.RowKit Go.Lib
set_option linter.unusedVariables false

/-- an offer that may stand there: party, units, price -/
def offB (p : Int × Int × Int) : Bool := decide (0 ≤ p.1 ∧ p.1 ≤ 30 ∧ 1 ≤ p.2.1 ∧ p.2.1 ≤ 1073741824 ∧ 0 ≤ p.2.2 ∧ p.2.2 ≤ 1099511627776)
theorem off_t {p : Int × Int × Int} (h : offB p = true) : 0 ≤ p.1 ∧ p.1 ≤ 30 ∧ 1 ≤ p.2.1 ∧ p.2.1 ≤ 1073741824 ∧ 0 ≤ p.2.2 ∧ p.2.2 ≤ 1099511627776 := of_decide_eq_true h
def OffIs (P U C : Int) (b : Bool) : Prop := ∀ w, Calls Try.prog 91 #[.agg #[.int .i64 P, .int .i64 U, .int .i64 C]] w fun e w' => e = .returned (.bool b) ∧ Kpt w w'

set_option maxHeartbeats 1000000 in
theorem isOffer_run (P U C : Int) : OffIs P U C (offB (P, U, C)) := by
  intro w
  have no : ¬ (0 ≤ P ∧ P ≤ 30 ∧ 1 ≤ U ∧ U ≤ 1073741824 ∧ 0 ≤ C ∧ C ≤ 1099511627776) → offB (P, U, C) = false := fun h => decide_eq_false h
  by_cases h1 : 0 ≤ P
  · have d1 : decide (0 ≤ P) = true := decide_eq_true h1
    by_cases h2 : P ≤ 30
    · have d2 : decide (P ≤ 30) = true := decide_eq_true h2
      by_cases h3 : 1 ≤ U
      · have d3 : decide (1 ≤ U) = true := decide_eq_true h3
        by_cases h4 : U ≤ 1073741824
        · have d4 : decide (U ≤ 1073741824) = true := decide_eq_true h4
          cases hp : prcB C with
          | true =>
            have hc := prc_t hp
            rw [show offB (P, U, C) = true from decide_eq_true ⟨h1, h2, h3, h4, hc.1, hc.2⟩]
            have PC := Lib.hid (fun w => pcheck_ok C hp w)
            clear no h1 h2 h3 h4 hp hc
            go_enter Try.func91, Try.ntmps91
            go_wp2_with (go_at_call 80; (with_reducible refine (PC.out _).mono ?_); rintro e w' ⟨rfl, rfl⟩)
            go_ret
            exact ⟨rfl, (Kpt.refl w).alloc _⟩
          | false =>
            have hc := prc_f hp
            rw [no (fun h => hc ⟨h.2.2.2.2.1, h.2.2.2.2.2⟩)]
            have PC := Lib.hid (fun w => pcheck_no C hp w)
            clear no h1 h2 h3 h4 hp hc
            go_enter Try.func91, Try.ntmps91
            go_wp2_with (go_at_call 80; (with_reducible refine (PC.out _).mono ?_); rintro e w' ⟨rfl, rfl⟩)
            go_ret
            exact ⟨rfl, (Kpt.refl w).alloc _⟩
        · rw [no (fun h => h4 h.2.2.2.1)]
          have d4 : decide (U ≤ 1073741824) = false := decide_eq_false h4
          clear no h1 h2 h3 h4
          go_enter Try.func91, Try.ntmps91
          go_wp2
          go_ret
          exact ⟨rfl, (Kpt.refl w).alloc _⟩
      · rw [no (fun h => h3 h.2.2.1)]
        have d3 : decide (1 ≤ U) = false := decide_eq_false h3
        clear no h1 h2 h3
        go_enter Try.func91, Try.ntmps91
        go_wp2
        go_ret
        exact ⟨rfl, (Kpt.refl w).alloc _⟩
    · rw [no (fun h => h2 h.2.1)]
      have d2 : decide (P ≤ 30) = false := decide_eq_false h2
      clear no h1 h2
      go_enter Try.func91, Try.ntmps91
      go_wp2
      go_ret
      exact ⟨rfl, (Kpt.refl w).alloc _⟩
  · rw [no (fun h => h1 h.1)]
    have d1 : decide (0 ≤ P) = false := decide_eq_false h1
    clear no h1
    go_enter Try.func91, Try.ntmps91
    go_wp2
    go_ret
    exact ⟨rfl, (Kpt.refl w).alloc _⟩

/-- prices, units of offers -/
def prcs (ps : List (Int × Int × Int)) : List Int := ps.map fun p => p.2.2
def unts (ps : List (Int × Int × Int)) : List Int := ps.map fun p => p.2.1
theorem prcs_len (ps : List (Int × Int × Int)) : (prcs ps).length = ps.length := by simp [prcs]
theorem unts_len (ps : List (Int × Int × Int)) : (unts ps).length = ps.length := by simp [unts]
theorem prcs_at {ps : List (Int × Int × Int)} {j : Nat} (h : j < ps.length) : (prcs ps).getD j 0 = (ps.getD j default).2.2 := by
  rw [List.getD_eq_getElem?_getD, List.getD_eq_getElem?_getD, List.getElem?_eq_getElem h, List.getElem?_eq_getElem (by rw [prcs_len]; exact h)]; simp [prcs]
theorem unts_at {ps : List (Int × Int × Int)} {j : Nat} (h : j < ps.length) : (unts ps).getD j 0 = (ps.getD j default).2.1 := by
  rw [List.getD_eq_getElem?_getD, List.getD_eq_getElem?_getD, List.getElem?_eq_getElem h, List.getElem?_eq_getElem (by rw [unts_len]; exact h)]; simp [unts]

/-- two places compared: the cheaper offer first -/
def cfC (ns : List Int) (x y : Int) : Int := Lib.compareInt (ns.getD x.toNat 0) (ns.getD y.toNat 0)
def keyC (ns : List Int) (x : Int) : Int := ns.getD x.toNat 0
theorem cfC_keyed (n : Nat) (ns : List Int) : Keyed n (cfC ns) (lxK (keyC ns)) :=
  keyed_of fun x y _ _ _ _ => by
    unfold cfC keyC Lib.compareInt
    generalize ns.getD x.toNat 0 = a
    generalize ns.getD y.toNat 0 = b
    constructor
    · intro h
      split at h
      · omega
      · split at h <;> omega
    · intro h
      rw [if_pos h]; decide

end Go.Proofs.Ytmoanndonfmihaa

-- LoanB
namespace Go.Proofs.Ytmoanndonfmihaa
open Go.RowKit Go.Lib
set_option linter.unusedVariables false

theorem upto_iota2 (n : Nat) : upto n n = iota n := by
  apply List.ext_getElem
  · simp [upto, iota]
  · intro i h1 h2
    have : i < n := by simpa [upto] using h1
    simp only [upto, iota, List.getElem_map, List.getElem_range]
    rw [if_pos this]
end Go.Proofs.Ytmoanndonfmihaa

-- LoanC
namespace Go.Proofs.Ytmoanndonfmihaa
open Go.RowKit Go.Lib
set_option linter.unusedVariables false

theorem OffIs.run {P U C : Int} {b : Bool} (h : OffIs P U C b) (w : World) : Calls Try.prog 91 #[.agg #[.int .i64 P, .int .i64 U, .int .i64 C]] w fun e w' => e = .returned (.bool b) ∧ Kpt w w' := h w
/-- which parties have been -/
def seenA (s : Nat → Bool) : Array Value := Array.ofFn (n := 31) fun i => .bool (s i.val)
theorem seen_at {s : Nat → Bool} {k : Nat} (h : k < 31) : (seenA s)[k]? = some (.bool (s k)) := by simp [seenA, h]
def seenU (s : Nat → Bool) (k : Nat) : Nat → Bool := fun i => if i = k then true else s i
theorem seen_put (s : Nat → Bool) (k : Nat) (h : k < 31) : (seenA s).setIfInBounds k (.bool true) = seenA (seenU s k) := by
  apply Array.ext
  · simp [seenA]
  · intro i h1 h2
    have hi : i < 31 := by simpa [seenA] using h2
    rw [Array.getElem_setIfInBounds (by simpa [seenA] using h2)]
    unfold seenU
    by_cases e : k = i
    · subst e; simp [seenA]
    · rw [if_neg e]; simp [seenA, show ¬ i = k by omega]
theorem seen_made (w : World) : Blk (w.alloc (.cells #[.bool false, .bool false, .bool false, .bool false, .bool false, .bool false, .bool false, .bool false, .bool false, .bool false, .bool false, .bool false, .bool false, .bool false, .bool false, .bool false, .bool false, .bool false, .bool false, .bool false, .bool false, .bool false, .bool false, .bool false, .bool false, .bool false, .bool false, .bool false, .bool false, .bool false, .bool false] 129)) w.heap.size (seenA fun _ => false) 129 := by
  have e : seenA (fun _ => false) = #[.bool false, .bool false, .bool false, .bool false, .bool false, .bool false, .bool false, .bool false, .bool false, .bool false, .bool false, .bool false, .bool false, .bool false, .bool false, .bool false, .bool false, .bool false, .bool false, .bool false, .bool false, .bool false, .bool false, .bool false, .bool false, .bool false, .bool false, .bool false, .bool false, .bool false, .bool false] := by kernel_rfl
  rw [e]; exact Blk.made w _ _
/-- the error of the first offer that stands wrong -/
def ofE (s : Nat → Bool) : List (Int × Int × Int) → Int
  | [] => 0
  | p :: l => if offB p = true then (if s p.1.toNat = true then 6 else ofE (seenU s p.1.toNat) l) else 3
def loanE (l : List (Int × Int × Int)) : Int := if 40 < l.length then 2 else ofE (fun _ => false) l

theorem loan_many (a : Option Addr) (n cap : Nat) (hn : 40 < n) (hb : n ≤ maxLen) (w : World) : Calls Try.prog 54 #[.slice a n cap] w fun e w' => e = .returned (.int .i64 2) ∧ Kpt w w' := by
  unfold maxLen at hb
  have h1 : (40 : Int) < (n : Int) := by omega
  go_enter Try.func54, Try.ntmps54
  go_wp2
  go_ret
  exact ⟨rfl, Kpt.refl _⟩

set_option maxHeartbeats 4000000 in
set_option maxRecDepth 100000 in
theorem loan_few (a : Option Addr) (cap : Nat) (ps : List (Int × Int × Int)) (w : World) (hm : ps.length ≤ 40) (hc : ∀ j, j < ps.length → ∃ b off, a = some ⟨b, off, none⟩ ∧ PtAt w b (off + j * 3) (ps.getD j default)) :
    Calls Try.prog 54 #[.slice a ps.length cap] w fun e w' => e = .returned (.int .i64 (ofE (fun _ => false) ps)) ∧ Kpt w w' := by
  have HC := Lib.hid hc
  clear hc
  obtain ⟨X, hX⟩ : ∃ X, X = ofE (fun _ => false) ps := ⟨_, rfl⟩
  rw [← hX]
  have HX0 : Hid (X = ofE (fun _ => false) (ps.drop 0)) := hX
  clear hX
  have DR : Hid (∀ k, k < ps.length → ps.drop k = ps.getD k default :: ps.drop (k + 1)) := fun k hk => by
    rw [List.drop_eq_getElem_cons hk, List.getD_eq_getElem?_getD, List.getElem?_eq_getElem hk]; rfl
  have DE : Hid (ps.drop ps.length = []) := List.drop_length
  go_enter Try.func54, Try.ntmps54
  go_wp2
  go_loopw [11] (fun i wr => ∃ (k : Nat) (s : Nat → Bool), k ≤ ps.length ∧ i = .int .i64 k ∧ Hid (X = ofE s (ps.drop k)) ∧ Hid (Blk wr w.heap.size (seenA s) 129) ∧ Hid (Kpt w wr)) (fun i _ => ps.length - (intOf i).toNat)
  case atStart => exact ⟨0, fun _ => false, Nat.zero_le _, rfl, HX0.out, seen_made w, (Kpt.refl w).alloc _⟩
  case round =>
    obtain ⟨k, s, hk, rfl, HE, HB, HK⟩ := hrel
    by_cases hlt : k < ps.length
    · obtain ⟨x, off, rfl, hp⟩ := HC.out k hlt
      obtain ⟨c0, c1, c2⟩ := hp.kpt HK.out
      have he := HE.out
      rw [DR.out k hlt] at he
      clear hp HE
      generalize ps.getD k default = p at c0 c1 c2 he
      obtain ⟨P, U, C⟩ := p
      simp only at c0 c1 c2
      have IO := Lib.hid (isOffer_run P U C)
      unfold ofE at he
      cases hB : offB (P, U, C) with
      | true =>
        have hb := off_t hB
        simp only at hb
        rw [hB] at IO he
        rw [if_pos rfl] at he
        obtain ⟨q, rfl⟩ : ∃ q : Nat, P = (q : Int) := ⟨P.toNat, by omega⟩
        simp only [Int.toNat_natCast] at he
        have hq : q < 31 := by omega
        have hq1 : (q : Int) < 31 := by omega
        have hq0 : (0 : Int) ≤ (q : Int) := by omega
        have HB2 : Hid (Blk (wr.alloc (.cells #[.int .i64 (q : Int), .int .i64 U, .int .i64 C] 52)) w.heap.size (seenA s) 129) := HB.out.alloc _
        have DB : Hid (Blk (wr.alloc (.cells #[.int .i64 (q : Int), .int .i64 U, .int .i64 C] 52)) wr.heap.size #[.int .i64 (q : Int), .int .i64 U, .int .i64 C] 52) := Blk.made wr _ _
        have KA : Hid (Kpt w (wr.alloc (.cells #[.int .i64 (q : Int), .int .i64 U, .int .i64 C] 52))) := HK.out.alloc _
        have HSQ := Lib.hid (seen_put s q hq)
        clear hB hb
        cases hs : s q with
        | true =>
          rw [hs, if_pos rfl] at he
          have HE2 := Lib.hid he
          have HS := Lib.hid hs
          clear he hs
          go_wp2_with (first
            | (go_at_call 91; (with_reducible refine (IO.out.run _).mono ?_); rintro e w3 ⟨rfl, k3⟩; have K3 := Lib.hid (ktr KA.out k3); have D3 := Lib.hid (DB.out.kpt k3); have B3 := Lib.hid (HB2.out.kpt k3); have d0 : World.cell? w3 ⟨wr.heap.size, 0, none⟩ = some (.int .i64 (q : Int)) := D3.out.cell 0; have b0 : World.cell? w3 ⟨w.heap.size, q, none⟩ = some (.bool true) := (B3.out.cell q).trans ((seen_at hq).trans (by rw [HS.out])); clear k3))
          go_ret
          exact ⟨ret_int HE2.out.symm, K3.out⟩
        | false =>
          rw [hs, if_neg (by decide)] at he
          have HE2 := Lib.hid he
          have HS := Lib.hid hs
          clear he hs
          go_wp2_with (first
            | (go_at_call 91; (with_reducible refine (IO.out.run _).mono ?_); rintro e w3 ⟨rfl, k3⟩; have K3 := Lib.hid (ktr KA.out k3); have D3 := Lib.hid (DB.out.kpt k3); have B3 := Lib.hid (HB2.out.kpt k3); have d0 : World.cell? w3 ⟨wr.heap.size, 0, none⟩ = some (.int .i64 (q : Int)) := D3.out.cell 0; have b0 : World.cell? w3 ⟨w.heap.size, q, none⟩ = some (.bool false) := (B3.out.cell q).trans ((seen_at hq).trans (by rw [HS.out])); have bf := B3.out.frozen q; clear k3))
          go_roundw
          case rel => exact ⟨k + 1, seenU s q, by omega, by go_num, HE2.out, by unfold Hid; rw [← HSQ.out]; exact B3.out.put _ _, K3.out.setCell (Nat.le_refl _) _⟩
          case measure => simp [intOf]; omega
      | false =>
        rw [hB] at IO he
        rw [if_neg (by decide)] at he
        have HE2 := Lib.hid he
        have KA : Hid (Kpt w (wr.alloc (.cells #[.int .i64 P, .int .i64 U, .int .i64 C] 52))) := HK.out.alloc _
        clear he hB
        go_wp2_with (first
          | (go_at_call 91; (with_reducible refine (IO.out.run _).mono ?_); rintro e w3 ⟨rfl, k3⟩; have K3 := Lib.hid (ktr KA.out k3); clear k3))
        go_ret
        exact ⟨ret_int HE2.out.symm, K3.out⟩
    · obtain rfl : k = ps.length := by omega
      have he := HE.out
      rw [DE.out] at he
      have HE2 : Hid (X = 0) := he
      clear he
      go_wp2
      go_ret
      exact ⟨ret_int HE2.out.symm, HK.out⟩
theorem loanCheck_any (v : Value) (ps : List (Int × Int × Int)) (w : World) (hr : ReadsP w v ps) : Calls Try.prog 54 #[v] w fun e w' => e = .returned (.int .i64 (loanE ps)) ∧ Kpt w w' := by
  obtain ⟨a, cap, rfl, -, hm, -, hc⟩ := hr
  by_cases h : 40 < ps.length
  · rw [show loanE ps = 2 from if_pos h]; exact loan_many a _ cap h hm w
  · rw [show loanE ps = ofE (fun _ => false) ps from if_neg h]; exact loan_few a cap ps w (by omega) hc

end Go.Proofs.Ytmoanndonfmihaa

-- LoanD
namespace Go.Proofs.Ytmoanndonfmihaa
open Go.RowKit Go.Lib
set_option linter.unusedVariables false

theorem ofE_all : ∀ {l : List (Int × Int × Int)} {s : Nat → Bool}, ofE s l = 0 → ∀ p ∈ l, offB p = true
  | [], _, _, p, hp => by cases hp
  | q :: l, s, h, p, hp => by
    unfold ofE at h
    split at h
    · rename_i hb
      split at h
      · cases h
      · rcases List.mem_cons.1 hp with rfl | hp
        · exact hb
        · exact ofE_all h p hp
    · cases h
theorem loan_0 {ps : List (Int × Int × Int)} (h : loanE ps = 0) : ps.length ≤ 40 ∧ ∀ p ∈ ps, offB p = true := by
  unfold loanE at h
  split at h
  · cases h
  · exact ⟨by omega, ofE_all h⟩
theorem loan_bd (ps : List (Int × Int × Int)) : loanE ps = 0 ∨ loanE ps = 2 ∨ loanE ps = 3 ∨ loanE ps = 6 := by
  have h : ∀ (l : List (Int × Int × Int)) (s : Nat → Bool), ofE s l = 0 ∨ ofE s l = 2 ∨ ofE s l = 3 ∨ ofE s l = 6 := by
    intro l
    induction l with
    | nil => intro s; exact .inl rfl
    | cons p l ih =>
      intro s
      unfold ofE
      split
      · split
        · exact .inr (.inr (.inr rfl))
        · exact ih _
      · exact .inr (.inr (.inl rfl))
  unfold loanE
  split
  · exact .inr (.inl rfl)
  · exact h _ _
theorem unts_mem {ps : List (Int × Int × Int)} (h : ∀ p ∈ ps, offB p = true) : ∀ u ∈ unts ps, 1 ≤ u ∧ u ≤ 1073741824 := by
  intro u hu
  obtain ⟨p, hp, rfl⟩ := List.mem_map.1 hu
  have := off_t (h p hp)
  exact ⟨this.2.2.1, this.2.2.2.1⟩
theorem unts_sum {ps : List (Int × Int × Int)} (h : ∀ p ∈ ps, offB p = true) (h40 : ps.length ≤ 40) (k : Nat) : 0 ≤ ((unts ps).take k).sum ∧ ((unts ps).take k).sum ≤ 42949672960 := by
  have h1 := sum_nonneg (xs := (unts ps).take k) fun u hu => by have := unts_mem h u (List.mem_of_mem_take hu); omega
  have h2 := sum_le (xs := (unts ps).take k) (b := 1073741824) fun u hu => (unts_mem h u (List.mem_of_mem_take hu)).2
  have h3 : ((unts ps).take k).length ≤ 40 := by rw [List.length_take, unts_len]; omega
  omega
/-- the error of offers and of what is wanted of them -/
def wantE (ps : List (Int × Int × Int)) (u : Int) : Int := if loanE ps = 0 then (if 1 ≤ u ∧ u ≤ 1073741824 then (if (unts ps).sum < u then 5 else 0) else 3) else loanE ps
theorem want_0 {ps : List (Int × Int × Int)} {u : Int} (h : wantE ps u = 0) : loanE ps = 0 ∧ (1 ≤ u ∧ u ≤ 1073741824) ∧ u ≤ (unts ps).sum := by
  unfold wantE at h
  split at h
  · rename_i h1
    split at h
    · rename_i h2
      split at h
      · cases h
      · exact ⟨h1, h2, by omega⟩
    · cases h
  · rename_i h1; exact absurd h h1

theorem unts_E {ps : List (Int × Int × Int)} {u : Int} (h : wantE ps u = 0) : wtsE (unts ps) = 0 := by
  obtain ⟨h0, h1, h2⟩ := want_0 h
  obtain ⟨h40, hall⟩ := loan_0 h0
  have hm := unts_mem hall
  have hne : unts ps ≠ [] := by intro e; rw [e] at h2; simp at h2; omega
  refine wtsE_ok hne (by rw [unts_len]; exact h40) (List.all_eq_true.2 fun z hz => decide_eq_true (by have := hm z hz; omega)) (fun e => ?_)
  obtain ⟨z, l, hl⟩ : ∃ z l, unts ps = z :: l := by
    cases hx : unts ps with
    | nil => exact absurd hx hne
    | cons z l => exact ⟨z, l, rfl⟩
  have hz := hm z (by rw [hl]; simp)
  have h3 := (foldl_max_le (unts ps) ((unts ps).headD 0)).2 z (by rw [hl]; simp)
  unfold Lib.maxOf at e
  omega

end Go.Proofs.Ytmoanndonfmihaa

-- LoanF
namespace Go.Proofs.Ytmoanndonfmihaa
open Go.RowKit Go.Lib
set_option linter.unusedVariables false

def lentB (ps : List (Int × Int × Int)) (ls : List Int) (k : Nat) : Bool := decide (0 ≤ ls.getD k 0 ∧ ls.getD k 0 ≤ (ps.getD k default).2.1)
def lentE (ps : List (Int × Int × Int)) (ls : List Int) : Int := if loanE ps = 0 then (if ls.length = ps.length then (if (List.range ps.length).all (lentB ps ls) = true then 0 else 3) else 1) else loanE ps
theorem lent_t {ps : List (Int × Int × Int)} {ls : List Int} {k : Nat} (h : lentB ps ls k = true) : 0 ≤ ls.getD k 0 ∧ ls.getD k 0 ≤ (ps.getD k default).2.1 := of_decide_eq_true h
theorem lent_0 {ps : List (Int × Int × Int)} {ls : List Int} (h : lentE ps ls = 0) : loanE ps = 0 ∧ ls.length = ps.length ∧ ∀ k, k < ps.length → 0 ≤ ls.getD k 0 ∧ ls.getD k 0 ≤ (ps.getD k default).2.1 := by
  unfold lentE at h
  split at h
  · rename_i h1
    split at h
    · rename_i h2
      split at h
      · rename_i h3
        exact ⟨h1, h2, fun k hk => lent_t (List.all_eq_true.1 h3 k (List.mem_range.2 hk))⟩
      · cases h
    · cases h
  · rename_i h1; exact absurd h h1

end Go.Proofs.Ytmoanndonfmihaa

-- LoanG
namespace Go.Proofs.Ytmoanndonfmihaa
open Go.RowKit Go.Shelf
set_option linter.unusedVariables false
attribute [local go_sem] Oper.semAt_some

/-- ints in blocks between two marks -/
def CellsI (n0 m0 : Nat) (W : World) (a : Option Addr) (zs : List Int) : Prop := ∀ j, j < zs.length → ∃ g, a = some ⟨g, 0, none⟩ ∧ n0 ≤ g ∧ g < m0 ∧ W.cell? ⟨g, j, none⟩ = some (.int .i64 (zs.getD j 0)) ∧ W.frozen? ⟨g, j, none⟩ = false
theorem CellsI.kpt {n0 m0 : Nat} {W W' : World} {a : Option Addr} {zs : List Int} (h : CellsI n0 m0 W a zs) (k : Kpt W W') : CellsI n0 m0 W' a zs := fun j hj => by
  obtain ⟨g, e, h1, h2, h3, h4⟩ := h j hj
  exact ⟨g, e, h1, h2, k.cell h3, (Below.frozen k (cell_in h3)).trans h4⟩
theorem CellsI.reads {n0 m0 : Nat} {W : World} {a : Option Addr} {zs : List Int} (h : CellsI n0 m0 W a zs) (hm : zs.length ≤ maxLen) (cap : Nat) : Reads W (.slice a zs.length cap) zs :=
  ⟨a, cap, rfl, hm, fun j hj => by obtain ⟨g, e, _, _, h3, _⟩ := h j hj; exact ⟨g, 0, e, by rw [Nat.zero_add]; exact h3⟩⟩
theorem CellsI.own {n0 m0 : Nat} {W W' : World} {row : Option Nat} {a : Option Addr} {zs : List Int} (h : CellsI n0 m0 W a zs) (hg : W.grownBy W' row) (hr : ∀ r, row = some r → ∃ o : Obj, W.heap[r]? = some o ∧ o.isCells = false) : CellsI n0 m0 W' a zs := fun j hj => by
  obtain ⟨g, e, h1, h2, h3, h4⟩ := h j hj
  exact ⟨g, e, h1, h2, cell_kept h3 hg hr, (frozen_kept h3 hg hr).trans h4⟩
theorem CellsI.away {n0 m0 : Nat} {W : World} {a : Option Addr} {zs : List Int} (h : CellsI n0 m0 W a zs) {p : Addr} (hp : p.block < n0 ∨ m0 ≤ p.block) (u : Value) : CellsI n0 m0 (W.setCell p u) a zs := fun j hj => by
  obtain ⟨g, e, h1, h2, h3, h4⟩ := h j hj
  exact ⟨g, e, h1, h2, set_far (by show p.block ≠ g; omega) h3, by rw [World.frozen?_setCell]; exact h4⟩
theorem CellsI.put {n0 m0 : Nat} {W : World} {g : Nat} {zs : List Int} (h : CellsI n0 m0 W (some ⟨g, 0, none⟩) zs) {k : Nat} (hk : k < zs.length) (z : Int) : CellsI n0 m0 (W.setCell ⟨g, k, none⟩ (.int .i64 z)) (some ⟨g, 0, none⟩) (zs.set k z) := fun j hj => by
  rw [List.length_set] at hj
  obtain ⟨g', e, h1, h2, h3, h4⟩ := h j hj
  injection e with e; injection e with e _ _; subst e
  refine ⟨g, rfl, h1, h2, ?_, by rw [World.frozen?_setCell]; exact h4⟩
  rw [List.getD_eq_getElem?_getD, List.getElem?_set]
  by_cases q : k = j
  · subst q; rw [if_pos rfl, if_pos hj]; exact set_at h3
  · rw [if_neg q, ← List.getD_eq_getElem?_getD, ← h3]
    exact World.cell?_setCell_other _ _ _ _ (fun e => q (by have := congrArg Addr.off e; simpa using this))

def backE (ps : List (Int × Int × Int)) (ls : List Int) (u : Int) : Int := if lentE ps ls = 0 then (if 0 ≤ u ∧ u ≤ 1073741824 then (if ls.sum < u then 8 else 0) else 3) else lentE ps ls
/-- how a call of Back ends -/
def BackEnd (w : World) (ls : List Int) (u : Int) (e : Ending) (w' : World) : Prop :=
  Kpt w w' ∧ ((ls.sum < u ∧ e = .returned (.tuple #[.slice none 0 0, .int .i64 8])) ∨ (u ≤ ls.sum ∧ ∃ a c, e = .returned (.tuple #[.slice a ls.length c, .int .i64 0]) ∧ Reads w' (.slice a ls.length c) (bkL ls u)))

theorem setD_self {L : List Int} {q : Nat} (h : q < L.length) (z : Int) : (L.set q z).getD q 0 = z := by
  rw [List.getD_eq_getElem?_getD, List.getElem?_set_self h]; rfl
theorem setD_ne {L : List Int} {q j : Nat} (h : q ≠ j) (z : Int) : (L.set q z).getD j 0 = L.getD j 0 := by
  rw [List.getD_eq_getElem?_getD, List.getElem?_set_ne h, ← List.getD_eq_getElem?_getD]
/-- what stands there between two rounds -/
structure BkI (ls : List Int) (u : Int) (pre : List (Fin ls.length)) (L : List Int) (r : Int) : Prop where
  len : L.length = ls.length
  r0 : 0 ≤ r
  r1 : r ≤ u
  bd : ∀ j : Nat, j < ls.length → -(u - r) ≤ L.getD j 0 ∧ L.getD j 0 ≤ 1073741824
  is : pre = bwd ls.length pre.length → pre.length ≤ ls.length → L = mixT ls (bkL ls u) (ls.length - pre.length) ∧ r = rsL ls u pre.length
theorem bkI_0 {ls : List Int} {u : Int} (hu : 0 ≤ u) (hb : ∀ k : Nat, k < ls.length → 0 ≤ ls.getD k 0 ∧ ls.getD k 0 ≤ 1073741824) : BkI ls u [] ls u where
  len := rfl
  r0 := hu
  r1 := Int.le_refl _
  bd j hj := by have := hb j hj; omega
  is _ _ := ⟨by rw [List.length_nil, Nat.sub_zero, mixT_all _ _ (bkL_len ls u).symm], (rsL_zero ls u).symm⟩
theorem bkI_s {ls : List Int} {u : Int} {pre : List (Fin ls.length)} {L : List Int} {r : Int} (h : BkI ls u pre L r) (hb : ∀ k : Nat, k < ls.length → 0 ≤ ls.getD k 0 ∧ ls.getD k 0 ≤ 1073741824) (q : Fin ls.length) :
    BkI ls u (pre ++ [q]) (L.set q.1 (L.getD q.1 0 - min r (ls.getD q.1 0))) (r - min r (ls.getD q.1 0)) where
  len := by rw [List.length_set, h.len]
  r0 := by have := h.r0; have := hb q.1 q.2; omega
  r1 := by have := h.r0; have := h.r1; have := hb q.1 q.2; omega
  bd j hj := by
    have h0 := h.r0
    have h1 := h.bd j hj
    have h2 := hb q.1 q.2
    by_cases e : q.1 = j
    · rw [e] at h2 ⊢
      rw [setD_self (by rw [h.len]; exact hj)]; omega
    · rw [setD_ne e]; omega
  is hp hl := by
    rw [List.length_append, List.length_singleton] at hp hl ⊢
    have hlt : pre.length < ls.length := hl
    rw [bwd_succ hlt] at hp
    obtain ⟨e1, e2⟩ := List.append_inj hp (by rw [bwd_len (by omega)])
    obtain ⟨i1, i2⟩ := h.is e1 (by omega)
    have hq : q = ⟨ls.length - 1 - pre.length, by omega⟩ := by simpa using e2
    have hq1 : q.1 = ls.length - 1 - pre.length := by rw [hq]
    have hk : ls.length - pre.length = q.1 + 1 := by omega
    have hk2 : ls.length - (pre.length + 1) = q.1 := by omega
    have hR := bkL_at ls u pre.length hlt
    rw [← hq1] at hR
    refine ⟨?_, ?_⟩
    · rw [i1, i2, hk, hk2, mixT_at _ _ (bkL_len ls u).symm _ q.2, ← hR]
      exact mixT_put _ _ (bkL_len ls u).symm _ q.2
    · rw [i2, rsL_succ ls u _ hlt, ← hq1]

end Go.Proofs.Ytmoanndonfmihaa
