/-
  Merged: SlV, BackMath, SlB, LoanA, LoanB, LoanC, LoanD, LoanF, LoanG.
-/
import Derived.RangeFuncBox
import Derived.RangeFuncNested
import Derived.RangeFuncBound
import Derived.RangeFuncCalls
import Derived.RangeFuncLeaves
import Derived.RangeFuncFrom
import Derived.RangeFuncWrites
import Derived.Shelf.Abstract
import Derived.Shelf.RegionOpen
import Derived.OwnWalkIn
import Derived.TacticsInMore
import Derived.LoopNIn
import Derived.LoopIn
import Derived.Maps.AppendAt
import Derived.Sort.OwnSortedInts
import Derived.Test.YtmecggncedhehaaShelf
import Derived.Test.YtmecggncedhehaaOwn
import Derived.Test.YtmecggncedhehaaKept
import Derived.Test.YtmecggncedhehaaSl
import Derived.Test.YtmecggncedhehaaBase
import Derived.Test.YtmecggncedhehaaPriceK
import Derived.Test.YtmecggncedhehaaTrip
import Derived.Test.YtmecggncedhehaaSortC
import Derived.Test.YtmecggncedhehaaStabF
import Derived.Test.YtmecggncedhehaaFirstMath
import Derived.Test.YtmecggncedhehaaPartsAll
-- SlV
namespace Go.Proofs.Ytmecggncedhehaa
open Go.RowKit Go.Shelf
set_option linter.unusedVariables false
attribute [local go_sem] Oper.semAt_some

theorem take_snoc {zs : List Int} {k : Nat} (h : k < zs.length) : zs.take (k + 1) = zs.take k ++ [zs.getD k 0] := by
  rw [List.take_succ_eq_append_getElem h]; simp [List.getD_eq_getElem?_getD, h]

/-- the numbers, in order -/
def srt (zs : List Int) : List Int := zs.mergeSort fun x y => decide (x ≤ y)
theorem srt_len (zs : List Int) : (srt zs).length = zs.length := by unfold srt; simp
theorem srt_perm (zs : List Int) : (srt zs).Perm zs := by unfold srt; exact List.mergeSort_perm _ _

end Go.Proofs.Ytmecggncedhehaa

-- BackMath
namespace Go.Proofs.Ytmecggncedhehaa
set_option linter.unusedVariables false

/-- what is left of each, one behind the other, when so many have come back -/
def bkR : List Int → Int → List Int
  | [], _ => []
  | m :: l, u => (m - min u m) :: bkR l (u - min u m)
/-- how many have come back to nobody -/
def rsR : List Int → Int → Int
  | [], u => u
  | m :: l, u => rsR l (u - min u m)
theorem bkR_len : ∀ (l : List Int) (u : Int), (bkR l u).length = l.length
  | [], _ => rfl
  | m :: l, u => by simp [bkR, bkR_len l]
theorem rsR_snoc : ∀ (l : List Int) (u m : Int), rsR (l ++ [m]) u = rsR l u - min (rsR l u) m
  | [], _, _ => rfl
  | x :: l, u, m => by simp only [List.cons_append, rsR]; exact rsR_snoc l _ m
theorem rsR_nn : ∀ (l : List Int) (u : Int), 0 ≤ u → 0 ≤ rsR l u
  | [], u, h => h
  | m :: l, u, h => by simp only [rsR]; exact rsR_nn l _ (by omega)
theorem rsR_le : ∀ (l : List Int) (u : Int), (∀ m ∈ l, 0 ≤ m) → 0 ≤ u → rsR l u ≤ u
  | [], u, _, _ => Int.le_refl _
  | m :: l, u, h, h0 => by
    have hm := h m (by simp)
    have := rsR_le l (u - min u m) (fun x hx => h x (by simp [hx])) (by omega)
    simp only [rsR]; omega
theorem lsum_nn : ∀ (l : List Int), (∀ m ∈ l, 0 ≤ m) → 0 ≤ l.sum
  | [], _ => by simp
  | m :: l, h => by
    have := h m (by simp)
    have := lsum_nn l (fun x hx => h x (by simp [hx]))
    simp only [List.sum_cons]; omega
theorem rsR_is : ∀ (l : List Int) (u : Int), (∀ m ∈ l, 0 ≤ m) → 0 ≤ u → rsR l u = max 0 (u - l.sum)
  | [], u, _, h0 => by simp [rsR]; omega
  | m :: l, u, h, h0 => by
    have hm := h m (by simp)
    have hs := lsum_nn l (fun x hx => h x (by simp [hx]))
    have := rsR_is l (u - min u m) (fun x hx => h x (by simp [hx])) (by omega)
    simp only [rsR, List.sum_cons, this]; omega
theorem bkR_sum : ∀ (l : List Int) (u : Int), (bkR l u).sum = l.sum - (u - rsR l u)
  | [], u => by simp [bkR, rsR]
  | m :: l, u => by
    have := bkR_sum l (u - min u m)
    simp only [bkR, rsR, List.sum_cons, this]; omega
theorem bkR_bd : ∀ (l : List Int) (u : Int), (∀ m ∈ l, 0 ≤ m) → 0 ≤ u → ∀ j, 0 ≤ (bkR l u).getD j 0 ∧ (bkR l u).getD j 0 ≤ l.getD j 0
  | [], u, _, _, j => by simp [bkR]
  | m :: l, u, h, h0, j => by
    have hm := h m (by simp)
    cases j with
    | zero => simp [bkR]; omega
    | succ j => simpa [bkR] using bkR_bd l (u - min u m) (fun x hx => h x (by simp [hx])) (by omega) j
theorem bkR_at : ∀ (l : List Int) (u : Int) (j : Nat), j < l.length → (bkR l u).getD j 0 = l.getD j 0 - min (rsR (l.take j) u) (l.getD j 0)
  | [], _, j, h => by simp at h
  | m :: l, u, 0, _ => by simp [bkR, rsR]
  | m :: l, u, j + 1, h => by
    have := bkR_at l (u - min u m) j (by simpa using h)
    simpa [bkR, rsR] using this
theorem bkR_zero : ∀ (l : List Int), (∀ m ∈ l, 0 ≤ m) → bkR l 0 = l
  | [], _ => rfl
  | m :: l, h => by
    have hm := h m (by simp)
    have e : min 0 m = 0 := by omega
    simp only [bkR, e, Int.sub_zero]
    rw [bkR_zero l (fun x hx => h x (by simp [hx]))]
theorem bkR_bkR : ∀ (l : List Int) (a b : Int), (∀ m ∈ l, 0 ≤ m) → 0 ≤ a → 0 ≤ b → bkR (bkR l a) b = bkR l (a + b) ∨ l.sum < a
  | [], _, _, _, _, _ => .inl rfl
  | m :: l, a, b, h, ha, hb => by
    have hm := h m (by simp)
    have hl : ∀ x ∈ l, 0 ≤ x := fun x hx => h x (by simp [hx])
    by_cases hc : (m :: l).sum < a
    · exact .inr hc
    · refine .inl ?_
      simp only [List.sum_cons] at hc
      simp only [bkR]
      by_cases e : a ≤ m
      · have e1 : min a m = a := by omega
        rw [e1]
        rw [show a - a = 0 by omega, bkR_zero l hl]
        rw [show m - a - min b (m - a) = m - min (a + b) m by omega, show a + b - min (a + b) m = b - min b (m - a) by omega]
      · have e1 : min a m = m := by omega
        have e2 : min (a + b) m = m := by omega
        rw [e1, e2, show m - m - min b (m - m) = m - m by omega, show b - min b (m - m) = b by omega]
        rcases bkR_bkR l (a - m) b hl (by omega) hb with h1 | h1
        · rw [h1, show a - m + b = a + b - m by omega]
        · omega
theorem bkR_first : ∀ (l : List Int) (u : Int), (∀ m ∈ l, 0 ≤ m) → 0 ≤ u → ∀ i k, i < k → (bkR l u).getD k 0 < l.getD k 0 → (bkR l u).getD i 0 = 0
  | [], u, _, _, i, k, _, h => by simp [bkR] at h
  | m :: l, u, hm', h0, i, k, hik, h => by
    have hm := hm' m (by simp)
    have hl : ∀ x ∈ l, 0 ≤ x := fun x hx => hm' x (by simp [hx])
    cases k with
    | zero => omega
    | succ k =>
      have hk : (bkR l (u - min u m)).getD k 0 < l.getD k 0 := by simpa [bkR] using h
      cases i with
      | zero =>
        by_cases e : u ≤ m
        · exfalso
          rw [show u - min u m = 0 by omega, bkR_zero l hl] at hk
          omega
        · simp [bkR]; omega
      | succ i => simpa [bkR] using bkR_first l (u - min u m) hl (by omega) i k (by omega) hk

/-- what is lent still by each, the last one first -/
def bkL (zs : List Int) (u : Int) : List Int := (bkR zs.reverse u).reverse
def rsL (zs : List Int) (u : Int) (j : Nat) : Int := rsR (zs.reverse.take j) u
theorem bkL_len (zs : List Int) (u : Int) : (bkL zs u).length = zs.length := by simp [bkL, bkR_len]
theorem rev_getD (l : List Int) (j : Nat) (h : j < l.length) : l.reverse.getD j 0 = l.getD (l.length - 1 - j) 0 := by
  simp only [List.getD_eq_getElem?_getD]
  rw [List.getElem?_reverse h]
theorem bkL_at (zs : List Int) (u : Int) (j : Nat) (h : j < zs.length) : (bkL zs u).getD (zs.length - 1 - j) 0 = zs.getD (zs.length - 1 - j) 0 - min (rsL zs u j) (zs.getD (zs.length - 1 - j) 0) := by
  unfold bkL rsL
  rw [rev_getD _ _ (by rw [bkR_len, List.length_reverse]; omega), bkR_len, List.length_reverse, show zs.length - 1 - (zs.length - 1 - j) = j by omega, bkR_at _ _ _ (by rw [List.length_reverse]; exact h), rev_getD _ _ h]
theorem rsL_zero (zs : List Int) (u : Int) : rsL zs u 0 = u := by simp [rsL, rsR]
theorem rsL_succ (zs : List Int) (u : Int) (j : Nat) (h : j < zs.length) : rsL zs u (j + 1) = rsL zs u j - min (rsL zs u j) (zs.getD (zs.length - 1 - j) 0) := by
  unfold rsL
  rw [List.take_succ_eq_append_getElem (by rw [List.length_reverse]; exact h), rsR_snoc]
  rw [← rev_getD _ _ h]
  simp [List.getD_eq_getElem?_getD, h]
theorem rsL_all (zs : List Int) (u : Int) (hz : ∀ m ∈ zs, 0 ≤ m) (hu : 0 ≤ u) : rsL zs u zs.length = max 0 (u - zs.sum) := by
  unfold rsL
  rw [List.take_of_length_le (by simp), rsR_is _ _ (by simpa using hz) hu, List.sum_reverse]
theorem rsL_bd (zs : List Int) (u : Int) (hz : ∀ m ∈ zs, 0 ≤ m) (hu : 0 ≤ u) (j : Nat) : 0 ≤ rsL zs u j ∧ rsL zs u j ≤ u :=
  ⟨rsR_nn _ _ hu, rsR_le _ _ (fun m hm => hz m (by simpa using List.mem_of_mem_take hm)) hu⟩
theorem bkL_sum (zs : List Int) (u : Int) (hz : ∀ m ∈ zs, 0 ≤ m) (hu : 0 ≤ u) (h : u ≤ zs.sum) : (bkL zs u).sum = zs.sum - u := by
  unfold bkL
  rw [List.sum_reverse, bkR_sum, rsR_is _ _ (by simpa using hz) hu, List.sum_reverse]
  omega
theorem bkL_bd (zs : List Int) (u : Int) (hz : ∀ m ∈ zs, 0 ≤ m) (hu : 0 ≤ u) (i : Nat) (hi : i < zs.length) : 0 ≤ (bkL zs u).getD i 0 ∧ (bkL zs u).getD i 0 ≤ zs.getD i 0 := by
  have := bkR_bd zs.reverse u (by simpa using hz) hu (zs.length - 1 - i)
  rw [rev_getD _ _ (by omega), show zs.length - 1 - (zs.length - 1 - i) = i by omega] at this
  unfold bkL
  rw [rev_getD _ _ (by rw [bkR_len, List.length_reverse]; omega), bkR_len, List.length_reverse]
  exact this
theorem bkL_bkL (zs : List Int) (a b : Int) (hz : ∀ m ∈ zs, 0 ≤ m) (ha : 0 ≤ a) (hb : 0 ≤ b) (h : a ≤ zs.sum) : bkL (bkL zs a) b = bkL zs (a + b) := by
  unfold bkL
  rw [List.reverse_reverse]
  rcases bkR_bkR zs.reverse a b (by simpa using hz) ha hb with e | e
  · rw [e]
  · rw [List.sum_reverse] at e; omega
theorem bkL_first (zs : List Int) (u : Int) (hz : ∀ m ∈ zs, 0 ≤ m) (hu : 0 ≤ u) (i k : Nat) (hk : k < i) (hi : i < zs.length) (h : (bkL zs u).getD k 0 < zs.getD k 0) : (bkL zs u).getD i 0 = 0 := by
  have e : ∀ q, q < zs.length → (bkL zs u).getD q 0 = (bkR zs.reverse u).getD (zs.length - 1 - q) 0 := fun q hq => by
    unfold bkL
    rw [rev_getD _ _ (by rw [bkR_len, List.length_reverse]; omega), bkR_len, List.length_reverse]
  rw [e i hi]
  rw [e k (by omega)] at h
  refine bkR_first zs.reverse u (by simpa using hz) hu (zs.length - 1 - i) (zs.length - 1 - k) (by omega) ?_
  rw [rev_getD _ _ (by omega), show zs.length - 1 - (zs.length - 1 - k) = k by omega]
  exact h
/-- the first k of one list, the others of another one -/
def mixT (xs ys : List Int) (k : Nat) : List Int := xs.take k ++ ys.drop k
theorem mixT_len (xs ys : List Int) (h : xs.length = ys.length) (k : Nat) (hk : k ≤ xs.length) : (mixT xs ys k).length = xs.length := by simp [mixT]; omega
theorem mixT_all (xs ys : List Int) (h : xs.length = ys.length) : mixT xs ys xs.length = xs := by unfold mixT; rw [List.take_length, h, List.drop_length, List.append_nil]
theorem mixT_none (xs ys : List Int) : mixT xs ys 0 = ys := by simp [mixT]
theorem mixT_at (xs ys : List Int) (h : xs.length = ys.length) (k : Nat) (hk : k < xs.length) : (mixT xs ys (k + 1)).getD k 0 = xs.getD k 0 := by
  unfold mixT
  simp only [List.getD_eq_getElem?_getD]
  rw [List.getElem?_append_left (by simp; omega)]
  simp [hk]
theorem mixT_put (xs ys : List Int) (h : xs.length = ys.length) (k : Nat) (hk : k < xs.length) : (mixT xs ys (k + 1)).set k (ys.getD k 0) = mixT xs ys k := by
  apply List.ext_getElem?
  intro i
  rw [List.getElem?_set]
  have hl := mixT_len xs ys h (k + 1) (by omega)
  by_cases e : k = i
  · subst e
    rw [if_pos rfl, if_pos (by omega)]
    unfold mixT
    rw [List.getElem?_append_right (by simp; omega)]
    simp only [List.length_take, List.getElem?_drop, List.getD_eq_getElem?_getD]
    rw [show k + (k - min k xs.length) = k by omega, List.getElem?_eq_getElem (by omega)]; rfl
  · rw [if_neg e]
    unfold mixT
    by_cases g : i < k
    · rw [List.getElem?_append_left (by simp; omega), List.getElem?_append_left (by simp; omega), List.getElem?_take, List.getElem?_take, if_pos (by omega), if_pos g]
    · rw [List.getElem?_append_right (by simp; omega), List.getElem?_append_right (by simp; omega)]
      simp only [List.length_take, List.getElem?_drop]
      congr 1; omega

end Go.Proofs.Ytmecggncedhehaa

-- SlB
namespace Go.Proofs.Ytmecggncedhehaa
open Go.RowKit Go.Shelf
set_option linter.unusedVariables false
attribute [local go_sem] Oper.semAt_some

/-- the places, from the last one on: k of them -/
def bwd (n k : Nat) : List (Fin n) := (List.finRange n).reverse.take k
theorem bwd_len {n k : Nat} (h : k ≤ n) : (bwd n k).length = k := by simp [bwd]; omega
theorem bwd_succ {n k : Nat} (h : k < n) : bwd n (k + 1) = bwd n k ++ [⟨n - 1 - k, by omega⟩] := by
  unfold bwd
  rw [List.take_succ_eq_append_getElem (by simpa using h)]
  congr 2
  rw [List.getElem_reverse]
  simp
theorem bwd_pre {n k m : Nat} (h : k ≤ m) : bwd n k <+: bwd n m := by
  unfold bwd
  exact List.take_prefix_take_left h

/-- a round keeps what lay below, and a box -/
def KpB (n₀ B : Nat) (W W' : World) : Prop := Below n₀ W W' ∧ W'.heap[B]? = W.heap[B]?
theorem KpB.t {n₀ B : Nat} {X Y Z : World} (h : KpB n₀ B X Y) (k : KpB n₀ B Y Z) : KpB n₀ B X Z := ⟨h.1.trans k.1, k.2.trans h.2⟩
theorem KpB.b {n₀ B : Nat} {w : World} (hn : n₀ ≤ w.heap.size) (hB : B < w.heap.size) (W : World) (l : Nat) (o o' : Obj) (hl : w.heap.size ≤ l) (h : W.heap[l]? = some o) (h1 : o.isCells = false) (h2 : o.isWalk = false) : KpB n₀ B W (W.putObj l o') :=
  ⟨belowK_b hn W l o o' hl h h1 h2, World.putObj_heap_other (by omega)⟩
theorem cell_same {W W' : World} {B o : Nat} (h : W'.heap[B]? = W.heap[B]?) : W'.cell? ⟨B, o, none⟩ = W.cell? ⟨B, o, none⟩ := by simp [World.cell?, h]

set_option maxRecDepth 100000 in
set_option maxHeartbeats 2000000 in
theorem bwdIter_in (n : Nat) (hn : 1 ≤ n) (l : Nat) (w0 : World) (a : Option Addr) (cap : Nat) (zs : List Int) (Bs : Nat) (hm : zs.length ≤ 1000000) (hR : Reads w0 (.slice a zs.length cap) zs)
    (J Jx : List (Fin zs.length) → World → Prop) (W0 : World) (g0 : Kpt w0 W0) (hB : W0.cell? ⟨Bs, 0, none⟩ = some (.slice a zs.length cap))
    (hY : ∀ pre x W1, J pre W1 → pre.length < zs.length → YieldAt Fence.wide (n - 1) Try.prog l #[.int .i64 ((x.1 : Nat) : Int), .int .i64 (zs.getD x.1 0)] W1 fun e W' =>
      (e = .returned (.bool true) ∧ J (pre ++ [x]) W' ∧ KpB w0.heap.size Bs W1 W') ∨ (e = .returned (.bool false) ∧ Jx (pre ++ [x]) W'))
    (h0 : J [] W0) :
    CallsIn Fence.wide n Try.prog 120 #[.func (.yield l) #[] #[], .pointer (some ⟨Bs, 0, none⟩)] W0 fun e W' => (∃ v, e = .returned v) ∧
      ((∃ ys, ys = bwd zs.length zs.length ∧ J ys W') ∨ (∃ pre, pre <+: bwd zs.length zs.length ∧ Jx pre W')) := by
  have HR := Lib.hid hR.sl
  have c0 := hB
  have HB := Lib.hid hB
  have G0 := Lib.hid g0
  have HY := Lib.hid hY
  have H0 : Hid (J (bwd zs.length 0) W0) := h0
  clear hR g0 hY hB h0
  refine callsIn_of_wp Try.func120 rfl trivial ?_ rfl
  simp only [Try.ntmps120, List.size_toArray, List.length_cons, List.length_nil, Nat.reduceAdd, Nat.reduceSub, Array.replicate_succ, Array.replicate_zero, List.push_toArray, List.append_toArray, List.nil_append, List.cons_append]
  gi_wp2
  clear c0
  gi_loopw [3] (fun i wr => ∃ (k : Nat) (x : Int), k ≤ zs.length ∧ i = .int .i64 x ∧ x = (zs.length : Int) - 1 - k ∧ Hid (J (bwd zs.length k) wr) ∧ Hid (Kpt w0 wr) ∧ Hid (wr.cell? ⟨Bs, 0, none⟩ = some (.slice a zs.length cap))) (fun i _ => (intOf i + 1).toNat)
  case atStart => exact ⟨0, (zs.length : Int) - 1, Nat.zero_le _, rfl, by omega, H0.out, G0.out, HB.out⟩
  case round =>
    obtain ⟨k, x, hk, rfl, hx, HJs, HG, HBB⟩ := hrel
    by_cases hlt : k < zs.length
    · obtain ⟨q, hq⟩ : ∃ q : Nat, q = zs.length - 1 - k := ⟨_, rfl⟩
      obtain rfl : x = (q : Int) := by omega
      have hql : q < zs.length := by omega
      obtain ⟨b, off, rfl, hc⟩ := HR.out q hql
      have c1 := HG.out.cell hc
      have cB := HBB.out
      have ht := bwd_succ hlt
      have hF : (⟨zs.length - 1 - k, by omega⟩ : Fin zs.length) = ⟨q, hql⟩ := Fin.ext hq.symm
      rw [hF] at ht
      clear hF
      have hlen : (bwd zs.length k).length < zs.length := by rw [bwd_len hk]; exact hlt
      have HP : Hid (bwd zs.length (k + 1) <+: bwd zs.length zs.length) := bwd_pre hlt
      have HX : Hid (((q : Nat) : Int) - 1 = (zs.length : Int) - 1 - ((k + 1 : Nat) : Int)) := by unfold Hid; omega
      have HT := Lib.hid ht
      obtain ⟨fn, tmps, assign, body, hy, hR⟩ := HY.out (bwd zs.length k) ⟨q, hql⟩ wr HJs.out hlen
      dsimp only at hy
      generalize zs.getD q 0 = y at c1 hy
      have HRR := Lib.hid hR
      have q0 : (0 : Int) ≤ (q : Int) := by omega
      have q1 : (q : Int) < zs.length := by omega
      have d0 : decide ((0 : Int) ≤ (q : Int)) = true := decide_eq_true q0
      clear hR ht hc hlen hq hx
      gi_wp2
      refine HRR.out.mono ?_
      rintro e W3 (⟨rfl, hJ3, hk3⟩ | ⟨rfl, hJx3⟩)
      · gi_wp2
        go_roundw
        case rel => exact ⟨k + 1, (q : Int) - 1, hlt, rfl, HX.out, by unfold Hid; rw [HT.out]; exact hJ3, HG.out.trans hk3.1, (cell_same hk3.2).trans HBB.out⟩
        case measure => simp [intOf]
      · gi_wp2
        refine bodyPost_ret (results_none rfl _ _ _) rfl ?_
        exact ⟨⟨_, rfl⟩, .inr ⟨_, HP.out, by rw [HT.out]; exact hJx3⟩⟩
    · have hkl : k = zs.length := by omega
      have HF : Hid (J (bwd zs.length zs.length) wr) := by have := HJs.out; rwa [hkl] at this
      obtain rfl : x = -1 := by omega
      clear HJs hkl hx
      gi_wp2
      go_end0
      exact ⟨⟨_, rfl⟩, .inl ⟨_, rfl, HF.out⟩⟩

theorem bwd_stops (n : Nat) (hn : 1 ≤ n) (n₀ : Nat) (w w0 : World) (hw : w.heap.size = n₀) (a : Option Addr) (cap : Nat) (zs : List Int) (Bs : Nat) (hm : zs.length ≤ 1000000) (hR : Reads w (.slice a zs.length cap) zs) (hk : Kpt w w0) (hB : w0.cell? ⟨Bs, 0, none⟩ = some (.slice a zs.length cap)) :
    SeqStopsK Fence.wide n Try.prog 120 #[.pointer (some ⟨Bs, 0, none⟩)] (fun x : Fin zs.length => #[.int .i64 ((x.1 : Nat) : Int), .int .i64 (zs.getD x.1 0)]) (KpB n₀ Bs) (fun ys => ys = bwd zs.length zs.length) (fun pre => pre <+: bwd zs.length zs.length) zs.length w0 := by
  intro l J Jx W0 hW hJ hJx hY h0
  subst hw
  exact bwdIter_in n hn l w a cap zs Bs hm hR J Jx W0 (ktr hk hW) (Kpt.cell hW hB) hY h0

theorem backward_run (a : Option Addr) (len cap : Nat) (w : World) :
    Calls Try.prog 83 #[.slice a len cap] w fun e w' => e = .returned (.func (.func 120) #[] #[.pointer (some ⟨w.heap.size, 0, none⟩)]) ∧ w' = w.alloc (.cells #[.slice a len cap] 22) := by
  go_enter Try.func83, Try.ntmps83
  go_wp2
  go_ret
  exact ⟨rfl, rfl⟩

end Go.Proofs.Ytmecggncedhehaa

-- LoanA
namespace Go.Proofs.Ytmecggncedhehaa
open Go.RowKit Go.Lib
set_option linter.unusedVariables false

/-- an offer that may stand there: party, units, price -/
def offB (p : Int × Int × Int) : Bool := decide (0 ≤ p.1 ∧ p.1 ≤ 30 ∧ 1 ≤ p.2.1 ∧ p.2.1 ≤ 1073741824 ∧ 0 ≤ p.2.2 ∧ p.2.2 ≤ 1099511627776)
theorem off_t {p : Int × Int × Int} (h : offB p = true) : 0 ≤ p.1 ∧ p.1 ≤ 30 ∧ 1 ≤ p.2.1 ∧ p.2.1 ≤ 1073741824 ∧ 0 ≤ p.2.2 ∧ p.2.2 ≤ 1099511627776 := of_decide_eq_true h
def OffIs (P U C : Int) (b : Bool) : Prop := ∀ w, Calls Try.prog 87 #[.agg #[.int .i64 P, .int .i64 U, .int .i64 C]] w fun e w' => e = .returned (.bool b) ∧ Kpt w w'

set_option maxHeartbeats 1000000 in
theorem isOffer_run (P U C : Int) : OffIs P U C (offB (P, U, C)) := by
  intro w
  have no : ¬ (0 ≤ P ∧ P ≤ 30 ∧ 1 ≤ U ∧ U ≤ 1073741824 ∧ 0 ≤ C ∧ C ≤ 1099511627776) → offB (P, U, C) = false := fun h => decide_eq_false h
  by_cases h1 : 0 ≤ P
  · have d1 : decide (0 ≤ P) = true := decide_eq_true h1
    by_cases h2 : P ≤ 30
    · have d2 : decide (P ≤ 30) = true := decide_eq_true h2
      by_cases h3 : 1 ≤ U
      · have d3 : decide (1 ≤ U) = true := decide_eq_true h3
        by_cases h4 : U ≤ 1073741824
        · have d4 : decide (U ≤ 1073741824) = true := decide_eq_true h4
          cases hp : prcB C with
          | true =>
            have hc := prc_t hp
            rw [show offB (P, U, C) = true from decide_eq_true ⟨h1, h2, h3, h4, hc.1, hc.2⟩]
            have PC := Lib.hid (fun w => pcheck_ok C hp w)
            clear no h1 h2 h3 h4 hp hc
            go_enter Try.func87, Try.ntmps87
            go_wp2_with (go_at_call 65; (with_reducible refine (PC.out _).mono ?_); rintro e w' ⟨rfl, rfl⟩)
            go_ret
            exact ⟨rfl, (Kpt.refl w).alloc _⟩
          | false =>
            have hc := prc_f hp
            rw [no (fun h => hc ⟨h.2.2.2.2.1, h.2.2.2.2.2⟩)]
            have PC := Lib.hid (fun w => pcheck_no C hp w)
            clear no h1 h2 h3 h4 hp hc
            go_enter Try.func87, Try.ntmps87
            go_wp2_with (go_at_call 65; (with_reducible refine (PC.out _).mono ?_); rintro e w' ⟨rfl, rfl⟩)
            go_ret
            exact ⟨rfl, (Kpt.refl w).alloc _⟩
        · rw [no (fun h => h4 h.2.2.2.1)]
          have d4 : decide (U ≤ 1073741824) = false := decide_eq_false h4
          clear no h1 h2 h3 h4
          go_enter Try.func87, Try.ntmps87
          go_wp2
          go_ret
          exact ⟨rfl, (Kpt.refl w).alloc _⟩
      · rw [no (fun h => h3 h.2.2.1)]
        have d3 : decide (1 ≤ U) = false := decide_eq_false h3
        clear no h1 h2 h3
        go_enter Try.func87, Try.ntmps87
        go_wp2
        go_ret
        exact ⟨rfl, (Kpt.refl w).alloc _⟩
    · rw [no (fun h => h2 h.2.1)]
      have d2 : decide (P ≤ 30) = false := decide_eq_false h2
      clear no h1 h2
      go_enter Try.func87, Try.ntmps87
      go_wp2
      go_ret
      exact ⟨rfl, (Kpt.refl w).alloc _⟩
  · rw [no (fun h => h1 h.1)]
    have d1 : decide (0 ≤ P) = false := decide_eq_false h1
    clear no h1
    go_enter Try.func87, Try.ntmps87
    go_wp2
    go_ret
    exact ⟨rfl, (Kpt.refl w).alloc _⟩

/-- prices, units of offers -/
def prcs (ps : List (Int × Int × Int)) : List Int := ps.map fun p => p.2.2
def unts (ps : List (Int × Int × Int)) : List Int := ps.map fun p => p.2.1
theorem prcs_len (ps : List (Int × Int × Int)) : (prcs ps).length = ps.length := by simp [prcs]
theorem unts_len (ps : List (Int × Int × Int)) : (unts ps).length = ps.length := by simp [unts]
theorem prcs_at {ps : List (Int × Int × Int)} {j : Nat} (h : j < ps.length) : (prcs ps).getD j 0 = (ps.getD j default).2.2 := by
  rw [List.getD_eq_getElem?_getD, List.getD_eq_getElem?_getD, List.getElem?_eq_getElem h, List.getElem?_eq_getElem (by rw [prcs_len]; exact h)]; simp [prcs]
theorem unts_at {ps : List (Int × Int × Int)} {j : Nat} (h : j < ps.length) : (unts ps).getD j 0 = (ps.getD j default).2.1 := by
  rw [List.getD_eq_getElem?_getD, List.getD_eq_getElem?_getD, List.getElem?_eq_getElem h, List.getElem?_eq_getElem (by rw [unts_len]; exact h)]; simp [unts]

/-- two places compared: the cheaper offer first -/
def cfC (ns : List Int) (x y : Int) : Int := Lib.compareInt (ns.getD x.toNat 0) (ns.getD y.toNat 0)
def keyC (ns : List Int) (x : Int) : Int := ns.getD x.toNat 0
theorem cfC_keyed (n : Nat) (ns : List Int) : Keyed n (cfC ns) (lxK (keyC ns)) :=
  keyed_of fun x y _ _ _ _ => by
    unfold cfC keyC Lib.compareInt
    generalize ns.getD x.toNat 0 = a
    generalize ns.getD y.toNat 0 = b
    constructor
    · intro h
      split at h
      · omega
      · split at h <;> omega
    · intro h
      rw [if_pos h]; decide

set_option maxRecDepth 100000 in
set_option maxHeartbeats 1000000 in
theorem cmpC_run (B g off cap n : Nat) (ns : List Int) (W : World) (hl : ns.length = n) (h40 : n ≤ 40) (hB : W.cell? ⟨B, 0, none⟩ = some (.slice (some ⟨g, off, none⟩) n cap)) (hN : ∀ j, j < n → W.cell? ⟨g, off + j * 3 + 2, none⟩ = some (.int .i64 (ns.getD j 0)))
    (i j : Nat) (hi : i < n) (hj : j < n) :
    Calls Try.prog 118 #[.int .i64 i, .int .i64 j, .pointer (some ⟨B, 0, none⟩)] W fun e w' => e = .returned (.int .i64 (Lib.compareInt (ns.getD i 0) (ns.getD j 0))) ∧ ∃ q, w' = W.drewN q := by
  have c1 := hN i hi
  have c2 := hN j hj
  clear hN
  generalize ns.getD i 0 = x at c1 ⊢
  generalize ns.getD j 0 = y at c2 ⊢
  have i0 : (0 : Int) ≤ i := by omega
  have j0 : (0 : Int) ≤ j := by omega
  have i1 : (i : Int) < n := by omega
  have j1 : (j : Int) < n := by omega
  obtain ⟨r, hr⟩ : ∃ r, Lib.compareInt x y = r := ⟨_, rfl⟩
  have C : ∀ k, Calls Try.prog 119 #[.int .i64 x, .int .i64 y] (W.drewN k) fun e w' => e = .returned (.int .i64 r) ∧ w' = W.drewN k := fun k => by rw [← hr]; exact Try.cmp_Compare_int x y _
  have HC := Lib.hid C
  rw [hr]
  clear C hr
  go_enter Try.func118, Try.ntmps118
  go_wp2
  go_quiet ((go_at_call 119; with_reducible exact Calls.quiet_of_same (HC.out _)))
  go_wp2
  go_ret
  exact ⟨rfl, _, rfl⟩

end Go.Proofs.Ytmecggncedhehaa

-- LoanB
namespace Go.Proofs.Ytmecggncedhehaa
open Go.RowKit Go.Lib
set_option linter.unusedVariables false

theorem upto_iota2 (n : Nat) : upto n n = iota n := by
  apply List.ext_getElem
  · simp [upto, iota]
  · intro i h1 h2
    have : i < n := by simpa [upto] using h1
    simp only [upto, iota, List.getElem_map, List.getElem_range]
    rw [if_pos this]
theorem cmpC_at (B g off cap n blk : Nat) (ns : List Int) (w : World) (hl : ns.length = n) (h40 : n ≤ 40) (hBb : B < blk) (hgb : g < blk) (hB : w.cell? ⟨B, 0, none⟩ = some (.slice (some ⟨g, off, none⟩) n cap)) (hN : ∀ j, j < n → w.cell? ⟨g, off + j * 3 + 2, none⟩ = some (.int .i64 (ns.getD j 0))) :
    CmpAt 118 #[.pointer (some ⟨B, 0, none⟩)] (cfC ns) n blk w := by
  intro W hb x y x0 x1 y0 y1
  obtain ⟨i, rfl⟩ : ∃ i : Nat, x = i := ⟨x.toNat, by omega⟩
  obtain ⟨j, rfl⟩ : ∃ j : Nat, y = j := ⟨y.toNat, by omega⟩
  have h := cmpC_run B g off cap n ns W hl h40 ((hb.cell (p := ⟨B, 0, none⟩) hBb).trans hB) (fun k hk => (hb.cell (p := ⟨g, off + k * 3 + 2, none⟩) hgb).trans (hN k hk)) i j (by omega) (by omega)
  unfold cfC
  rw [Int.toNat_natCast, Int.toNat_natCast]
  exact h

set_option maxRecDepth 100000 in
set_option maxHeartbeats 1000000 in
theorem cheapest_any (g off cap n : Nat) (ns : List Int) (w : World) (hl : ns.length = n) (hp : 0 < n) (h40 : n ≤ 40) (hN : ∀ j, j < n → w.cell? ⟨g, off + j * 3 + 2, none⟩ = some (.int .i64 (ns.getD j 0))) :
    Calls Try.prog 80 #[.slice (some ⟨g, off, none⟩) n cap] w (Order w (ordK n (keyC ns))) := by
  have hg : g < w.heap.size := cell_in (hN 0 (by omega))
  have MK := run_zeros (w.alloc (.cells #[.slice (some ⟨g, off, none⟩) n cap] 50)) n (by omega)
  rw [World.size_alloc] at MK
  have HN := Lib.hid hN
  have HL := Lib.hid hl
  clear hN hl
  have hb0 : (w.alloc (.cells #[.slice (some ⟨g, off, none⟩) n cap] 50)).cell? ⟨w.heap.size, 0, none⟩ = some (.slice (some ⟨g, off, none⟩) n cap) := by simp [go_sem]
  have HB0 := Lib.hid hb0
  have EG : Hid (∀ args w, (callFunc 118 args).run Try.prog w = .ok (.enter 118 args) w) := enters_of Try.func118 (by kernel_rfl) rfl
  clear hb0
  go_enter Try.func80, Try.ntmps80
  go_wp2
  go_loopw [10] (fun i wr => ∃ k : Nat, k ≤ n ∧ i = .int .i64 k ∧ Hid (Row wr (w.heap.size + 1) (upto n k)) ∧ Hid (Below (w.heap.size + 1) (w.alloc (.cells #[.slice (some ⟨g, off, none⟩) n cap] 50)) wr)) (fun i _ => n - (intOf i).toNat)
  case atStart =>
    refine ⟨0, Nat.zero_le _, rfl, ?_, ?_⟩
    · unfold Hid
      rw [upto_zero]
      have := Row.made (w.alloc (.cells #[.slice (some ⟨g, off, none⟩) n cap] 50)) n
      rw [World.size_alloc] at this
      exact this
    · exact (Below.refl _ _).alloc (by rw [World.size_alloc]; exact Nat.le_refl _) _
  case round =>
    obtain ⟨k, hk, rfl, HR, HB⟩ := hrel
    clear MK
    by_cases hlt : k < n
    · have c1 := HR.out.cell (j := k) (by rw [upto_len]; exact hlt)
      have f1 := HR.out.frozen k
      go_wp2
      go_roundw
      case rel => exact ⟨k + 1, by omega, by go_num, by unfold Hid; rw [← upto_put]; exact HR.out.put k _, HB.out.setCell (Nat.le_refl _) _⟩
      case measure => simp [intOf]; omega
    · obtain rfl : k = n := by omega
      have hr : Row wr (w.heap.size + 1) (iota k) := by
        have h := HR.out; rw [upto_iota2] at h; exact h
      have CM := cmpC_at w.heap.size g off cap k (w.heap.size + 1) ns wr HL.out h40 (by omega) (by omega)
        ((HB.out.cell (p := ⟨w.heap.size, 0, none⟩) (by show w.heap.size < w.heap.size + 1; omega)).trans HB0.out)
        (fun j hj => (HB.out.cell (p := ⟨g, off + j * 3 + 2, none⟩) (by show g < w.heap.size + 1; omega)).trans (((Below.refl w.heap.size w).alloc (Nat.le_refl _) _).cell (p := ⟨g, off + j * 3 + 2, none⟩) hg |>.trans (HN.out j hj)))
      have I := sortStable_any 118 #[.pointer (some ⟨w.heap.size, 0, none⟩)] (cfC ns) (lxK (keyC ns)) k (w.heap.size + 1) k wr ⟨cfC_keyed k ns, EG.out, CM, hr, hp, h40⟩
      have HI := Lib.hid I
      clear I hr CM
      go_wp2_with (go_at_call 117; (with_reducible refine HI.out.mono ?_); rintro e w1 hs; obtain ⟨rfl, hs2⟩ := hs; have HS := Lib.hid hs2; clear hs2)
      go_ret
      have hA : Below w.heap.size w (w.alloc (.cells #[.slice (some ⟨g, off, none⟩) k cap] 50)) := (Below.refl _ _).alloc (Nat.le_refl _) _
      obtain ⟨os, g1, g2, g3⟩ := HS.out
      have ho : os = ordK k (keyC ns) := Ordd.eq ⟨g2, g3⟩
      rw [← ho]
      exact order_mk (by rw [g2.length_eq, iota_len]) (by omega) g1.row ((hA.trans (HB.out.mono (by omega))).trans (g1.bel.mono (by omega)))

set_option maxRecDepth 100000 in
set_option maxHeartbeats 1000000 in
theorem unitsOf_any (g off cap : Nat) (ps : List (Int × Int × Int)) (w : World) (h40 : ps.length ≤ 40) (hc : ∀ j, j < ps.length → PtAt w g (off + j * 3) (ps.getD j default)) :
    Calls Try.prog 79 #[.slice (some ⟨g, off, none⟩) ps.length cap] w fun e w' => ∃ O, e = .returned (.slice (some ⟨O, 0, none⟩) ps.length ps.length) ∧ w.heap.size ≤ O ∧ Row w' O (unts ps) ∧ Kpt w w' := by
  have MK := run_zeros w ps.length (by omega)
  have HC := Lib.hid hc
  have HU : Hid (∀ k, k < ps.length → (unts ps).getD k 0 = (ps.getD k default).2.1) := fun k hk => unts_at hk
  have HL := Lib.hid (unts_len ps)
  clear hc
  go_enter Try.func79, Try.ntmps79
  go_wp2
  go_loopw [11] (fun i wr => ∃ k : Nat, k ≤ ps.length ∧ i = .int .i64 k ∧ Hid (Row wr w.heap.size (mix (unts ps) k)) ∧ Hid (Kpt w wr)) (fun i _ => ps.length - (intOf i).toNat)
  case atStart => exact ⟨0, Nat.zero_le _, rfl, (by unfold Hid; rw [mix_zero, HL.out]; exact Row.made w ps.length), (Kpt.refl w).alloc _⟩
  case round =>
    obtain ⟨k, hk, rfl, HR, HK⟩ := hrel
    clear MK
    by_cases hlt : k < ps.length
    · obtain ⟨c0, c1, c2⟩ := (HC.out k hlt).kpt HK.out
      have hu := HU.out k hlt
      have hm := mix_put (unts ps) k
      rw [hu] at hm
      have HM := Lib.hid hm
      clear hu hm
      generalize ps.getD k default = p at c0 c1 c2 HM
      obtain ⟨P, U, C⟩ := p
      simp only at c0 c1 c2
      have HM : Hid ((mix (unts ps) k).set k U = mix (unts ps) (k + 1)) := HM
      have HR2 : Hid (Row (wr.alloc (.cells #[.int .i64 P, .int .i64 U, .int .i64 C] 66)) w.heap.size (mix (unts ps) k)) := HR.out.below ((Kpt.refl wr).alloc _) HR.out.lt
      have x1 := HR2.out.cell (j := k) (by rw [mix_len, HL.out]; exact hlt)
      have f1 := HR2.out.frozen k
      have KA : Hid (Kpt w (wr.alloc (.cells #[.int .i64 P, .int .i64 U, .int .i64 C] 66))) := HK.out.alloc _
      go_wp2
      go_roundw
      case rel => exact ⟨k + 1, by omega, by go_num, by unfold Hid; rw [← HM.out]; exact HR2.out.put k U, KA.out.setCell (Nat.le_refl _) _⟩
      case measure => simp [intOf]; omega
    · obtain rfl : k = ps.length := by omega
      have hr := HR.out
      rw [← HL.out, mix_full] at hr
      have HRR := Lib.hid hr
      go_wp2
      go_ret
      exact ⟨_, rfl, Nat.le_refl _, HRR.out, HK.out⟩

end Go.Proofs.Ytmecggncedhehaa

-- LoanC
namespace Go.Proofs.Ytmecggncedhehaa
open Go.RowKit Go.Lib
set_option linter.unusedVariables false

theorem OffIs.run {P U C : Int} {b : Bool} (h : OffIs P U C b) (w : World) : Calls Try.prog 87 #[.agg #[.int .i64 P, .int .i64 U, .int .i64 C]] w fun e w' => e = .returned (.bool b) ∧ Kpt w w' := h w
/-- which parties have been -/
def seenA (s : Nat → Bool) : Array Value := Array.ofFn (n := 31) fun i => .bool (s i.val)
theorem seen_at {s : Nat → Bool} {k : Nat} (h : k < 31) : (seenA s)[k]? = some (.bool (s k)) := by simp [seenA, h]
def seenU (s : Nat → Bool) (k : Nat) : Nat → Bool := fun i => if i = k then true else s i
theorem seen_put (s : Nat → Bool) (k : Nat) (h : k < 31) : (seenA s).setIfInBounds k (.bool true) = seenA (seenU s k) := by
  apply Array.ext
  · simp [seenA]
  · intro i h1 h2
    have hi : i < 31 := by simpa [seenA] using h2
    rw [Array.getElem_setIfInBounds (by simpa [seenA] using h2)]
    unfold seenU
    by_cases e : k = i
    · subst e; simp [seenA]
    · rw [if_neg e]; simp [seenA, show ¬ i = k by omega]
theorem seen_made (w : World) : Blk (w.alloc (.cells #[.bool false, .bool false, .bool false, .bool false, .bool false, .bool false, .bool false, .bool false, .bool false, .bool false, .bool false, .bool false, .bool false, .bool false, .bool false, .bool false, .bool false, .bool false, .bool false, .bool false, .bool false, .bool false, .bool false, .bool false, .bool false, .bool false, .bool false, .bool false, .bool false, .bool false, .bool false] 118)) w.heap.size (seenA fun _ => false) 118 := by
  have e : seenA (fun _ => false) = #[.bool false, .bool false, .bool false, .bool false, .bool false, .bool false, .bool false, .bool false, .bool false, .bool false, .bool false, .bool false, .bool false, .bool false, .bool false, .bool false, .bool false, .bool false, .bool false, .bool false, .bool false, .bool false, .bool false, .bool false, .bool false, .bool false, .bool false, .bool false, .bool false, .bool false, .bool false] := by kernel_rfl
  rw [e]; exact Blk.made w _ _
/-- the error of the first offer that stands wrong -/
def ofE (s : Nat → Bool) : List (Int × Int × Int) → Int
  | [] => 0
  | p :: l => if offB p = true then (if s p.1.toNat = true then 6 else ofE (seenU s p.1.toNat) l) else 3
def loanE (l : List (Int × Int × Int)) : Int := if 40 < l.length then 2 else ofE (fun _ => false) l

theorem loan_many (a : Option Addr) (n cap : Nat) (hn : 40 < n) (hb : n ≤ maxLen) (w : World) : Calls Try.prog 35 #[.slice a n cap] w fun e w' => e = .returned (.int .i64 2) ∧ Kpt w w' := by
  unfold maxLen at hb
  have h1 : (40 : Int) < (n : Int) := by omega
  go_enter Try.func35, Try.ntmps35
  go_wp2
  go_ret
  exact ⟨rfl, Kpt.refl _⟩

set_option maxHeartbeats 4000000 in
set_option maxRecDepth 100000 in
theorem loan_few (a : Option Addr) (cap : Nat) (ps : List (Int × Int × Int)) (w : World) (hm : ps.length ≤ 40) (hc : ∀ j, j < ps.length → ∃ b off, a = some ⟨b, off, none⟩ ∧ PtAt w b (off + j * 3) (ps.getD j default)) :
    Calls Try.prog 35 #[.slice a ps.length cap] w fun e w' => e = .returned (.int .i64 (ofE (fun _ => false) ps)) ∧ Kpt w w' := by
  have HC := Lib.hid hc
  clear hc
  obtain ⟨X, hX⟩ : ∃ X, X = ofE (fun _ => false) ps := ⟨_, rfl⟩
  rw [← hX]
  have HX0 : Hid (X = ofE (fun _ => false) (ps.drop 0)) := hX
  clear hX
  have DR : Hid (∀ k, k < ps.length → ps.drop k = ps.getD k default :: ps.drop (k + 1)) := fun k hk => by
    rw [List.drop_eq_getElem_cons hk, List.getD_eq_getElem?_getD, List.getElem?_eq_getElem hk]; rfl
  have DE : Hid (ps.drop ps.length = []) := List.drop_length
  go_enter Try.func35, Try.ntmps35
  go_wp2
  go_loopw [11] (fun i wr => ∃ (k : Nat) (s : Nat → Bool), k ≤ ps.length ∧ i = .int .i64 k ∧ Hid (X = ofE s (ps.drop k)) ∧ Hid (Blk wr w.heap.size (seenA s) 118) ∧ Hid (Kpt w wr)) (fun i _ => ps.length - (intOf i).toNat)
  case atStart => exact ⟨0, fun _ => false, Nat.zero_le _, rfl, HX0.out, seen_made w, (Kpt.refl w).alloc _⟩
  case round =>
    obtain ⟨k, s, hk, rfl, HE, HB, HK⟩ := hrel
    by_cases hlt : k < ps.length
    · obtain ⟨x, off, rfl, hp⟩ := HC.out k hlt
      obtain ⟨c0, c1, c2⟩ := hp.kpt HK.out
      have he := HE.out
      rw [DR.out k hlt] at he
      clear hp HE
      generalize ps.getD k default = p at c0 c1 c2 he
      obtain ⟨P, U, C⟩ := p
      simp only at c0 c1 c2
      have IO := Lib.hid (isOffer_run P U C)
      unfold ofE at he
      cases hB : offB (P, U, C) with
      | true =>
        have hb := off_t hB
        simp only at hb
        rw [hB] at IO he
        rw [if_pos rfl] at he
        obtain ⟨q, rfl⟩ : ∃ q : Nat, P = (q : Int) := ⟨P.toNat, by omega⟩
        simp only [Int.toNat_natCast] at he
        have hq : q < 31 := by omega
        have hq1 : (q : Int) < 31 := by omega
        have hq0 : (0 : Int) ≤ (q : Int) := by omega
        have HB2 : Hid (Blk (wr.alloc (.cells #[.int .i64 (q : Int), .int .i64 U, .int .i64 C] 66)) w.heap.size (seenA s) 118) := HB.out.alloc _
        have DB : Hid (Blk (wr.alloc (.cells #[.int .i64 (q : Int), .int .i64 U, .int .i64 C] 66)) wr.heap.size #[.int .i64 (q : Int), .int .i64 U, .int .i64 C] 66) := Blk.made wr _ _
        have KA : Hid (Kpt w (wr.alloc (.cells #[.int .i64 (q : Int), .int .i64 U, .int .i64 C] 66))) := HK.out.alloc _
        have HSQ := Lib.hid (seen_put s q hq)
        clear hB hb
        cases hs : s q with
        | true =>
          rw [hs, if_pos rfl] at he
          have HE2 := Lib.hid he
          have HS := Lib.hid hs
          clear he hs
          go_wp2_with (first
            | (go_at_call 87; (with_reducible refine (IO.out.run _).mono ?_); rintro e w3 ⟨rfl, k3⟩; have K3 := Lib.hid (ktr KA.out k3); have D3 := Lib.hid (DB.out.kpt k3); have B3 := Lib.hid (HB2.out.kpt k3); have d0 : World.cell? w3 ⟨wr.heap.size, 0, none⟩ = some (.int .i64 (q : Int)) := D3.out.cell 0; have b0 : World.cell? w3 ⟨w.heap.size, q, none⟩ = some (.bool true) := (B3.out.cell q).trans ((seen_at hq).trans (by rw [HS.out])); clear k3))
          go_ret
          exact ⟨ret_int HE2.out.symm, K3.out⟩
        | false =>
          rw [hs, if_neg (by decide)] at he
          have HE2 := Lib.hid he
          have HS := Lib.hid hs
          clear he hs
          go_wp2_with (first
            | (go_at_call 87; (with_reducible refine (IO.out.run _).mono ?_); rintro e w3 ⟨rfl, k3⟩; have K3 := Lib.hid (ktr KA.out k3); have D3 := Lib.hid (DB.out.kpt k3); have B3 := Lib.hid (HB2.out.kpt k3); have d0 : World.cell? w3 ⟨wr.heap.size, 0, none⟩ = some (.int .i64 (q : Int)) := D3.out.cell 0; have b0 : World.cell? w3 ⟨w.heap.size, q, none⟩ = some (.bool false) := (B3.out.cell q).trans ((seen_at hq).trans (by rw [HS.out])); have bf := B3.out.frozen q; clear k3))
          go_roundw
          case rel => exact ⟨k + 1, seenU s q, by omega, by go_num, HE2.out, by unfold Hid; rw [← HSQ.out]; exact B3.out.put _ _, K3.out.setCell (Nat.le_refl _) _⟩
          case measure => simp [intOf]; omega
      | false =>
        rw [hB] at IO he
        rw [if_neg (by decide)] at he
        have HE2 := Lib.hid he
        have KA : Hid (Kpt w (wr.alloc (.cells #[.int .i64 P, .int .i64 U, .int .i64 C] 66))) := HK.out.alloc _
        clear he hB
        go_wp2_with (first
          | (go_at_call 87; (with_reducible refine (IO.out.run _).mono ?_); rintro e w3 ⟨rfl, k3⟩; have K3 := Lib.hid (ktr KA.out k3); clear k3))
        go_ret
        exact ⟨ret_int HE2.out.symm, K3.out⟩
    · obtain rfl : k = ps.length := by omega
      have he := HE.out
      rw [DE.out] at he
      have HE2 : Hid (X = 0) := he
      clear he
      go_wp2
      go_ret
      exact ⟨ret_int HE2.out.symm, HK.out⟩
theorem loanCheck_any (v : Value) (ps : List (Int × Int × Int)) (w : World) (hr : ReadsP w v ps) : Calls Try.prog 35 #[v] w fun e w' => e = .returned (.int .i64 (loanE ps)) ∧ Kpt w w' := by
  obtain ⟨a, cap, rfl, -, hm, -, hc⟩ := hr
  by_cases h : 40 < ps.length
  · rw [show loanE ps = 2 from if_pos h]; exact loan_many a _ cap h hm w
  · rw [show loanE ps = ofE (fun _ => false) ps from if_neg h]; exact loan_few a cap ps w (by omega) hc

end Go.Proofs.Ytmecggncedhehaa

-- LoanD
namespace Go.Proofs.Ytmecggncedhehaa
open Go.RowKit Go.Lib
set_option linter.unusedVariables false

theorem ofE_all : ∀ {l : List (Int × Int × Int)} {s : Nat → Bool}, ofE s l = 0 → ∀ p ∈ l, offB p = true
  | [], _, _, p, hp => by cases hp
  | q :: l, s, h, p, hp => by
    unfold ofE at h
    split at h
    · rename_i hb
      split at h
      · cases h
      · rcases List.mem_cons.1 hp with rfl | hp
        · exact hb
        · exact ofE_all h p hp
    · cases h
theorem loan_0 {ps : List (Int × Int × Int)} (h : loanE ps = 0) : ps.length ≤ 40 ∧ ∀ p ∈ ps, offB p = true := by
  unfold loanE at h
  split at h
  · cases h
  · exact ⟨by omega, ofE_all h⟩
theorem loan_bd (ps : List (Int × Int × Int)) : loanE ps = 0 ∨ loanE ps = 2 ∨ loanE ps = 3 ∨ loanE ps = 6 := by
  have h : ∀ (l : List (Int × Int × Int)) (s : Nat → Bool), ofE s l = 0 ∨ ofE s l = 2 ∨ ofE s l = 3 ∨ ofE s l = 6 := by
    intro l
    induction l with
    | nil => intro s; exact .inl rfl
    | cons p l ih =>
      intro s
      unfold ofE
      split
      · split
        · exact .inr (.inr (.inr rfl))
        · exact ih _
      · exact .inr (.inr (.inl rfl))
  unfold loanE
  split
  · exact .inr (.inl rfl)
  · exact h _ _
theorem unts_mem {ps : List (Int × Int × Int)} (h : ∀ p ∈ ps, offB p = true) : ∀ u ∈ unts ps, 1 ≤ u ∧ u ≤ 1073741824 := by
  intro u hu
  obtain ⟨p, hp, rfl⟩ := List.mem_map.1 hu
  have := off_t (h p hp)
  exact ⟨this.2.2.1, this.2.2.2.1⟩
theorem unts_sum {ps : List (Int × Int × Int)} (h : ∀ p ∈ ps, offB p = true) (h40 : ps.length ≤ 40) (k : Nat) : 0 ≤ ((unts ps).take k).sum ∧ ((unts ps).take k).sum ≤ 42949672960 := by
  have h1 := sum_nonneg (xs := (unts ps).take k) fun u hu => by have := unts_mem h u (List.mem_of_mem_take hu); omega
  have h2 := sum_le (xs := (unts ps).take k) (b := 1073741824) fun u hu => (unts_mem h u (List.mem_of_mem_take hu)).2
  have h3 : ((unts ps).take k).length ≤ 40 := by rw [List.length_take, unts_len]; omega
  omega
/-- the error of offers and of what is wanted of them -/
def wantE (ps : List (Int × Int × Int)) (u : Int) : Int := if loanE ps = 0 then (if 1 ≤ u ∧ u ≤ 1073741824 then (if (unts ps).sum < u then 5 else 0) else 3) else loanE ps
theorem want_0 {ps : List (Int × Int × Int)} {u : Int} (h : wantE ps u = 0) : loanE ps = 0 ∧ (1 ≤ u ∧ u ≤ 1073741824) ∧ u ≤ (unts ps).sum := by
  unfold wantE at h
  split at h
  · rename_i h1
    split at h
    · rename_i h2
      split at h
      · cases h
      · exact ⟨h1, h2, by omega⟩
    · cases h
  · rename_i h1; exact absurd h h1

set_option maxHeartbeats 2000000 in
set_option maxRecDepth 100000 in
theorem want_any (v : Value) (ps : List (Int × Int × Int)) (u : Int) (w : World) (hr : ReadsP w v ps) : Calls Try.prog 77 #[v, .int .i64 u] w fun e w' => e = .returned (.int .i64 (wantE ps u)) ∧ Kpt w w' := by
  have C := Lib.hid (loanCheck_any v ps w hr)
  by_cases hE : loanE ps = 0
  · obtain ⟨h40, hall⟩ := loan_0 hE
    rw [hE] at C
    by_cases hu : 1 ≤ u ∧ u ≤ 1073741824
    · have u1 : decide (u < 1) = false := decide_eq_false (by omega)
      have u2 : decide (1073741824 < u) = false := decide_eq_false (by omega)
      have HX : Hid (wantE ps u = if (unts ps).sum < u then 5 else 0) := by unfold Hid wantE; rw [if_pos hE, if_pos hu]
      obtain ⟨a, cap, rfl, -, hm, -, hc⟩ := hr
      have HC := Lib.hid hc
      have HB := Lib.hid (fun k => unts_sum hall h40 k)
      have HU : Hid (∀ k, k < ps.length → ((unts ps).take (k + 1)).sum = ((unts ps).take k).sum + (ps.getD k default).2.1) := fun k hk => by
        rw [take_sum (by rw [unts_len]; exact hk), unts_at hk]
      have HT : Hid ((unts ps).take ps.length = unts ps) := List.take_of_length_le (by rw [unts_len]; exact Nat.le_refl _)
      clear hc hm hE hall
      go_enter Try.func77, Try.ntmps77
      go_wp2_with (go_at_call 35; (with_reducible refine C.out.mono ?_); rintro e w1 ⟨rfl, k1⟩; have K1 := Lib.hid k1; clear k1)
      go_loopw [6, 22] (fun s i wr => ∃ k : Nat, k ≤ ps.length ∧ i = .int .i64 k ∧ s = .int .i64 ((unts ps).take k).sum ∧ Hid (Kpt w wr)) (fun _ i _ => ps.length - (intOf i).toNat)
      case atStart => exact ⟨0, Nat.zero_le _, rfl, by rw [List.take_zero, List.sum_nil], K1.out⟩
      case round =>
        obtain ⟨k, hk, rfl, rfl, HK⟩ := hrel
        by_cases hlt : k < ps.length
        · obtain ⟨x, off, rfl, hp⟩ := HC.out k hlt
          obtain ⟨c0, c1, c2⟩ := hp.kpt HK.out
          have hs := HU.out k hlt
          have b0 := HB.out k
          have b1 := HB.out (k + 1)
          clear hp
          generalize ps.getD k default = p at c0 c1 c2 hs
          obtain ⟨P, U, D⟩ := p
          simp only at c0 c1 c2 hs
          rw [hs] at b1
          have HS := Lib.hid hs
          clear hs
          generalize ((unts ps).take k).sum = S at *
          have KA : Hid (Kpt w (wr.alloc (.cells #[.int .i64 P, .int .i64 U, .int .i64 D] 66))) := HK.out.alloc _
          go_wp2
          go_roundw
          case rel => exact ⟨k + 1, by omega, by go_num, by rw [HS.out], KA.out⟩
          case measure => simp [intOf]; omega
        · obtain rfl : k = ps.length := by omega
          have b0 := HB.out ps.length
          rw [HT.out] at b0 ⊢
          generalize (unts ps).sum = S at *
          by_cases hS : S < u
          · have HX2 : Hid (wantE ps u = 5) := by unfold Hid; rw [HX.out, if_pos hS]
            have q : decide (S < u) = true := decide_eq_true hS
            clear hS HX
            go_wp2
            go_ret
            exact ⟨ret_int HX2.out.symm, HK.out⟩
          · have HX2 : Hid (wantE ps u = 0) := by unfold Hid; rw [HX.out, if_neg hS]
            have q : decide (S < u) = false := decide_eq_false hS
            clear hS HX
            go_wp2
            go_ret
            exact ⟨ret_int HX2.out.symm, HK.out⟩
    · have HX : Hid (wantE ps u = 3) := by unfold Hid wantE; rw [if_pos hE, if_neg hu]
      clear hr hE hall
      by_cases h1 : u < 1
      · have u1 : decide (u < 1) = true := decide_eq_true h1
        clear hu h1
        go_enter Try.func77, Try.ntmps77
        go_wp2_with (go_at_call 35; (with_reducible refine C.out.mono ?_); rintro e w1 ⟨rfl, k1⟩; have K1 := Lib.hid k1; clear k1)
        go_ret
        exact ⟨ret_int HX.out.symm, K1.out⟩
      · have u1 : decide (u < 1) = false := decide_eq_false h1
        have u2 : decide (1073741824 < u) = true := decide_eq_true (by omega)
        clear hu h1
        go_enter Try.func77, Try.ntmps77
        go_wp2_with (go_at_call 35; (with_reducible refine C.out.mono ?_); rintro e w1 ⟨rfl, k1⟩; have K1 := Lib.hid k1; clear k1)
        go_ret
        exact ⟨ret_int HX.out.symm, K1.out⟩
  · have HX : Hid (wantE ps u = loanE ps) := by unfold Hid wantE; rw [if_neg hE]
    have q : (loanE ps != 0) = true := bne_iff_ne.2 hE
    clear hr
    generalize loanE ps = E at *
    go_enter Try.func77, Try.ntmps77
    go_wp2_with (go_at_call 35; (with_reducible refine C.out.mono ?_); rintro e w1 ⟨rfl, k1⟩; have K1 := Lib.hid k1; clear k1)
    go_ret
    exact ⟨ret_int HX.out.symm, K1.out⟩

theorem unts_E {ps : List (Int × Int × Int)} {u : Int} (h : wantE ps u = 0) : wtsE (unts ps) = 0 := by
  obtain ⟨h0, h1, h2⟩ := want_0 h
  obtain ⟨h40, hall⟩ := loan_0 h0
  have hm := unts_mem hall
  have hne : unts ps ≠ [] := by intro e; rw [e] at h2; simp at h2; omega
  refine wtsE_ok hne (by rw [unts_len]; exact h40) (List.all_eq_true.2 fun z hz => decide_eq_true (by have := hm z hz; omega)) (fun e => ?_)
  obtain ⟨z, l, hl⟩ : ∃ z l, unts ps = z :: l := by
    cases hx : unts ps with
    | nil => exact absurd hx hne
    | cons z l => exact ⟨z, l, rfl⟩
  have hz := hm z (by rw [hl]; simp)
  have h3 := (foldl_max_le (unts ps) ((unts ps).headD 0)).2 z (by rw [hl]; simp)
  unfold Lib.maxOf at e
  omega

set_option maxRecDepth 100000 in
theorem lshare_bad (v : Value) (ps : List (Int × Int × Int)) (u : Int) (w : World) (hr : ReadsP w v ps) (hE : wantE ps u ≠ 0) : Calls Try.prog 26 #[v, .int .i64 u] w fun e w' => e = .returned (.tuple #[.slice none 0 0, .int .i64 (wantE ps u)]) ∧ Kpt w w' := by
  have C := Lib.hid (want_any v ps u w hr)
  have q : (wantE ps u != 0) = true := bne_iff_ne.2 hE
  clear hr
  generalize wantE ps u = E at *
  go_enter Try.func26, Try.ntmps26
  go_wp2_with (go_at_call 77; (with_reducible refine C.out.mono ?_); rintro e w1 ⟨rfl, k1⟩; have K1 := Lib.hid k1; clear k1)
  go_ret2
  exact ⟨rfl, K1.out⟩
set_option maxRecDepth 100000 in
theorem lshare_ok (v : Value) (ps : List (Int × Int × Int)) (u : Int) (w : World) (hr : ReadsP w v ps) (hE : wantE ps u = 0) : Calls Try.prog 26 #[v, .int .i64 u] w fun e w' => ∃ g, e = .returned (.tuple #[.slice (some ⟨g, 0, none⟩) ps.length ps.length, .int .i64 0]) ∧ w.heap.size ≤ g ∧ Row w' g (pbs u (unts ps)) ∧ Kpt w w' := by
  have C := Lib.hid (want_any v ps u w hr)
  rw [hE] at C
  obtain ⟨h0, h1, h2⟩ := want_0 hE
  obtain ⟨h40, hall⟩ := loan_0 h0
  have hpos : 0 < ps.length := by
    rcases Nat.eq_zero_or_pos ps.length with e | e
    · exfalso
      have : unts ps = [] := List.eq_nil_of_length_eq_zero (by rw [unts_len, e])
      rw [this] at h2; simp at h2; omega
    · exact e
  rcases hr.cell with ⟨e, _⟩ | ⟨_, b, off, cap, rfl, hc⟩
  · rw [e] at hpos; simp at hpos
  have HC := Lib.hid hc
  have UW := Lib.hid (unts_E hE)
  have HLU := Lib.hid (unts_len ps)
  have HLP := Lib.hid (pbs_len u (unts ps))
  have UO : Hid (∀ w', Kpt w w' → Calls Try.prog 79 #[.slice (some ⟨b, off, none⟩) ps.length cap] w' fun e w'' => ∃ O, e = .returned (.slice (some ⟨O, 0, none⟩) ps.length ps.length) ∧ w'.heap.size ≤ O ∧ Row w'' O (unts ps) ∧ Kpt w' w'') := fun w' k => unitsOf_any b off cap ps w' h40 (fun j hj => (HC.out j hj).kpt k)
  have PA : Hid (∀ w' O, Row w' O (unts ps) → Calls Try.prog 78 #[.int .i64 u, .slice (some ⟨O, 0, none⟩) ps.length ps.length] w' fun e w'' => ∃ g, e = .returned (.tuple #[.slice (some ⟨g, 0, none⟩) ps.length ps.length, .int .i64 0]) ∧ w'.heap.size ≤ g ∧ Row w'' g (pbs u (unts ps)) ∧ Kpt w' w'') := fun w' O r => by
    have h := parts_full O 0 ps.length (unts ps) u (by omega) (by omega) w' (r.reads (by rw [HLU.out]; unfold maxLen; omega) ps.length) UW.out
    rw [HLU.out] at h
    refine h.mono ?_
    rintro e w'' ⟨g, rfl, hg, r2, k2⟩
    rw [HLP.out, HLU.out]
    exact ⟨g, rfl, hg, r2, k2⟩
  clear hc hr hE h0 hall h2
  go_enter Try.func26, Try.ntmps26
  go_wp2_with (first
    | (go_at_call 77; (with_reducible refine C.out.mono ?_); rintro e w1 ⟨rfl, k1⟩; have K1 := Lib.hid k1; clear k1)
    | (go_at_call 79; (with_reducible refine (UO.out _ K1.out).mono ?_); rintro e w2 ⟨O, rfl, hO, r2, k2⟩; have K2 := Lib.hid (ktr K1.out k2); have R2 := Lib.hid r2; clear k2 r2)
    | (go_at_call 78; (with_reducible refine (PA.out _ _ R2.out).mono ?_); rintro e w3 ⟨g, rfl, hg, r3, k3⟩; have K3 := Lib.hid (ktr K2.out k3); have R3 := Lib.hid r3; clear k3 r3))
  go_ret2
  exact ⟨g, rfl, Nat.le_trans K2.out.size hg, R3.out, K3.out⟩

end Go.Proofs.Ytmecggncedhehaa

-- LoanF
namespace Go.Proofs.Ytmecggncedhehaa
open Go.RowKit Go.Lib
set_option linter.unusedVariables false

def lentB (ps : List (Int × Int × Int)) (ls : List Int) (k : Nat) : Bool := decide (0 ≤ ls.getD k 0 ∧ ls.getD k 0 ≤ (ps.getD k default).2.1)
def lentE (ps : List (Int × Int × Int)) (ls : List Int) : Int := if loanE ps = 0 then (if ls.length = ps.length then (if (List.range ps.length).all (lentB ps ls) = true then 0 else 3) else 1) else loanE ps
theorem lent_t {ps : List (Int × Int × Int)} {ls : List Int} {k : Nat} (h : lentB ps ls k = true) : 0 ≤ ls.getD k 0 ∧ ls.getD k 0 ≤ (ps.getD k default).2.1 := of_decide_eq_true h
theorem lent_0 {ps : List (Int × Int × Int)} {ls : List Int} (h : lentE ps ls = 0) : loanE ps = 0 ∧ ls.length = ps.length ∧ ∀ k, k < ps.length → 0 ≤ ls.getD k 0 ∧ ls.getD k 0 ≤ (ps.getD k default).2.1 := by
  unfold lentE at h
  split at h
  · rename_i h1
    split at h
    · rename_i h2
      split at h
      · rename_i h3
        exact ⟨h1, h2, fun k hk => lent_t (List.all_eq_true.1 h3 k (List.mem_range.2 hk))⟩
      · cases h
    · cases h
  · rename_i h1; exact absurd h h1

set_option maxHeartbeats 2000000 in
set_option maxRecDepth 100000 in
theorem lent_any (v lv : Value) (ps : List (Int × Int × Int)) (ls : List Int) (w : World) (hr : ReadsP w v ps) (hl : Reads w lv ls) (hw : ∀ z ∈ ls, -9223372036854775808 ≤ z ∧ z ≤ 9223372036854775807) :
    Calls Try.prog 81 #[v, lv] w fun e w' => e = .returned (.int .i64 (lentE ps ls)) ∧ Kpt w w' := by
  have C := Lib.hid (loanCheck_any v ps w hr)
  by_cases hE : loanE ps = 0
  · obtain ⟨h40, hall⟩ := loan_0 hE
    rw [hE] at C
    obtain ⟨a, cap, rfl, -, hm, -, hc⟩ := hr
    obtain ⟨la, lcap, rfl, hlm, hlc⟩ := hl
    unfold maxLen at hlm
    by_cases hn : ls.length = ps.length
    · obtain ⟨n, hnn⟩ : ∃ n, n = ps.length := ⟨_, rfl⟩
      have HC : Hid (∀ j, j < n → ∃ b off, a = some ⟨b, off, none⟩ ∧ PtAt w b (off + j * 3) (ps.getD j default)) := fun j hj => hc j (by omega)
      have HL : Hid (∀ j, j < n → ∃ b off, la = some ⟨b, off, none⟩ ∧ w.cell? ⟨b, off + j, none⟩ = some (.int .i64 (ls.getD j 0))) := fun j hj => hlc j (by omega)
      have HX : Hid (lentE ps ls = if (List.range n).all (lentB ps ls) = true then 0 else 3) := by unfold Hid lentE; rw [if_pos hE, if_pos hn, hnn]
      have HN : Hid (∀ k, k < n → lentB ps ls k = false → lentE ps ls = 3) := fun k hk hb => by
        rw [HX.out, if_neg]
        intro h
        have := List.all_eq_true.1 h k (List.mem_range.2 hk)
        rw [hb] at this; cases this
      have HY : Hid ((∀ j, j < n → lentB ps ls j = true) → lentE ps ls = 0) := fun h => by
        rw [HX.out, if_pos (List.all_eq_true.2 fun j hj => h j (List.mem_range.1 hj))]
      have hn40 : n ≤ 40 := by omega
      rw [hn, ← hnn]
      rw [← hnn] at C
      clear hc hlc hm hlm hn hnn h40 hall hE HX hw
      go_enter Try.func81, Try.ntmps81
      go_wp2_with (go_at_call 35; (with_reducible refine C.out.mono ?_); rintro e w1 ⟨rfl, k1⟩; have K1 := Lib.hid k1; clear k1)
      go_loopw [20] (fun i wr => ∃ k : Nat, k ≤ n ∧ i = .int .i64 k ∧ Hid (∀ j, j < k → lentB ps ls j = true) ∧ wr = w1) (fun i _ => n - (intOf i).toNat)
      case atStart => exact ⟨0, Nat.zero_le _, rfl, (fun j hj => absurd hj (Nat.not_lt_zero j)), rfl⟩
      case round =>
        obtain ⟨k, hk, rfl, HA, rfl⟩ := hrel
        by_cases hlt : k < n
        · obtain ⟨x, off, rfl, hp⟩ := HC.out k hlt
          obtain ⟨y, off2, rfl, hz⟩ := HL.out k hlt
          obtain ⟨c0, c1, c2⟩ := hp.kpt K1.out
          have d0 := K1.out.cell hz
          have HN2 := Lib.hid (HN.out k hlt)
          have HA2 : Hid (lentB ps ls k = true → ∀ j, j < k + 1 → lentB ps ls j = true) := fun h j hj => by
            rcases Nat.lt_or_ge j k with g | g
            · exact HA.out j g
            · obtain rfl : j = k := by omega
              exact h
          have hbd : lentB ps ls k = decide (0 ≤ ls.getD k 0 ∧ ls.getD k 0 ≤ (ps.getD k default).2.1) := rfl
          clear hp hz c0 c2
          generalize (ps.getD k default).2.1 = U at *
          generalize ls.getD k 0 = z at *
          have HBD := Lib.hid hbd
          clear hbd
          by_cases z0 : z < 0
          · have q0 : decide (z < 0) = true := decide_eq_true z0
            have HE3 := Lib.hid (HN2.out (by rw [HBD.out]; exact decide_eq_false (by omega)))
            clear z0
            go_wp2
            go_ret
            exact ⟨ret_int HE3.out.symm, K1.out⟩
          · have q0 : decide (z < 0) = false := decide_eq_false z0
            by_cases z1 : U < z
            · have q1 : decide (U < z) = true := decide_eq_true z1
              have HE3 := Lib.hid (HN2.out (by rw [HBD.out]; exact decide_eq_false (by omega)))
              clear z0 z1
              go_wp2
              go_ret
              exact ⟨ret_int HE3.out.symm, K1.out⟩
            · have q1 : decide (U < z) = false := decide_eq_false z1
              have HA3 := Lib.hid (HA2.out (by rw [HBD.out]; exact decide_eq_true (by omega)))
              clear z0 z1
              go_wp2
              go_roundw
              case rel => exact ⟨k + 1, by omega, by go_num, HA3.out, trivial⟩
              case measure => simp [intOf]; omega
        · obtain rfl : k = n := by omega
          have HE3 := Lib.hid (HY.out HA.out)
          go_wp2
          go_ret
          exact ⟨ret_int HE3.out.symm, K1.out⟩
    · have HX : Hid (lentE ps ls = 1) := by unfold Hid lentE; rw [if_pos hE, if_neg hn]
      have q : ((ls.length : Int) != (ps.length : Int)) = true := bne_iff_ne.2 (by omega)
      clear hc hlc hm hn hall hE hw
      generalize lentE ps ls = E at *
      go_enter Try.func81, Try.ntmps81
      go_wp2_with (go_at_call 35; (with_reducible refine C.out.mono ?_); rintro e w1 ⟨rfl, k1⟩; have K1 := Lib.hid k1; clear k1)
      go_ret
      exact ⟨ret_int HX.out.symm, K1.out⟩
  · have HX : Hid (lentE ps ls = loanE ps) := by unfold Hid lentE; rw [if_neg hE]
    have q : (loanE ps != 0) = true := bne_iff_ne.2 hE
    clear hr hl hw
    generalize loanE ps = E at *
    go_enter Try.func81, Try.ntmps81
    go_wp2_with (go_at_call 35; (with_reducible refine C.out.mono ?_); rintro e w1 ⟨rfl, k1⟩; have K1 := Lib.hid k1; clear k1)
    go_ret
    exact ⟨ret_int HX.out.symm, K1.out⟩

end Go.Proofs.Ytmecggncedhehaa

-- LoanG
namespace Go.Proofs.Ytmecggncedhehaa
open Go.RowKit Go.Shelf
set_option linter.unusedVariables false
attribute [local go_sem] Oper.semAt_some

/-- ints in blocks between two marks -/
def CellsI (n0 m0 : Nat) (W : World) (a : Option Addr) (zs : List Int) : Prop := ∀ j, j < zs.length → ∃ g, a = some ⟨g, 0, none⟩ ∧ n0 ≤ g ∧ g < m0 ∧ W.cell? ⟨g, j, none⟩ = some (.int .i64 (zs.getD j 0)) ∧ W.frozen? ⟨g, j, none⟩ = false
theorem CellsI.kpt {n0 m0 : Nat} {W W' : World} {a : Option Addr} {zs : List Int} (h : CellsI n0 m0 W a zs) (k : Kpt W W') : CellsI n0 m0 W' a zs := fun j hj => by
  obtain ⟨g, e, h1, h2, h3, h4⟩ := h j hj
  exact ⟨g, e, h1, h2, k.cell h3, (Below.frozen k (cell_in h3)).trans h4⟩
theorem CellsI.reads {n0 m0 : Nat} {W : World} {a : Option Addr} {zs : List Int} (h : CellsI n0 m0 W a zs) (hm : zs.length ≤ maxLen) (cap : Nat) : Reads W (.slice a zs.length cap) zs :=
  ⟨a, cap, rfl, hm, fun j hj => by obtain ⟨g, e, _, _, h3, _⟩ := h j hj; exact ⟨g, 0, e, by rw [Nat.zero_add]; exact h3⟩⟩
theorem CellsI.own {n0 m0 : Nat} {W W' : World} {row : Option Nat} {a : Option Addr} {zs : List Int} (h : CellsI n0 m0 W a zs) (hg : W.grownBy W' row) (hr : ∀ r, row = some r → ∃ o : Obj, W.heap[r]? = some o ∧ o.isCells = false) : CellsI n0 m0 W' a zs := fun j hj => by
  obtain ⟨g, e, h1, h2, h3, h4⟩ := h j hj
  exact ⟨g, e, h1, h2, cell_kept h3 hg hr, (frozen_kept h3 hg hr).trans h4⟩
theorem CellsI.away {n0 m0 : Nat} {W : World} {a : Option Addr} {zs : List Int} (h : CellsI n0 m0 W a zs) {p : Addr} (hp : p.block < n0 ∨ m0 ≤ p.block) (u : Value) : CellsI n0 m0 (W.setCell p u) a zs := fun j hj => by
  obtain ⟨g, e, h1, h2, h3, h4⟩ := h j hj
  exact ⟨g, e, h1, h2, set_far (by show p.block ≠ g; omega) h3, by rw [World.frozen?_setCell]; exact h4⟩
theorem CellsI.put {n0 m0 : Nat} {W : World} {g : Nat} {zs : List Int} (h : CellsI n0 m0 W (some ⟨g, 0, none⟩) zs) {k : Nat} (hk : k < zs.length) (z : Int) : CellsI n0 m0 (W.setCell ⟨g, k, none⟩ (.int .i64 z)) (some ⟨g, 0, none⟩) (zs.set k z) := fun j hj => by
  rw [List.length_set] at hj
  obtain ⟨g', e, h1, h2, h3, h4⟩ := h j hj
  injection e with e; injection e with e _ _; subst e
  refine ⟨g, rfl, h1, h2, ?_, by rw [World.frozen?_setCell]; exact h4⟩
  rw [List.getD_eq_getElem?_getD, List.getElem?_set]
  by_cases q : k = j
  · subst q; rw [if_pos rfl, if_pos hj]; exact set_at h3
  · rw [if_neg q, ← List.getD_eq_getElem?_getD, ← h3]
    exact World.cell?_setCell_other _ _ _ _ (fun e => q (by have := congrArg Addr.off e; simpa using this))

theorem cloneL_run (v : Value) (zs : List Int) (w : World) (hr : Reads w v zs) (hm : zs.length ≤ 100000) :
    Calls Try.prog 82 #[v] w fun e w' => ∃ a c, e = .returned (.slice a zs.length c) ∧ CellsI w.heap.size w'.heap.size w' a zs ∧ Kpt w w' := by
  rcases hr.cell with ⟨rfl, a, cap, rfl⟩ | ⟨h0, b, off, cap, rfl, hc⟩
  · cases a with
    | none =>
      refine (Try.slices_Clone_int_nil 0 cap w).mono ?_
      rintro e w' ⟨rfl, rfl⟩
      exact ⟨none, 0, rfl, fun j hj => absurd hj (Nat.not_lt_zero j), Kpt.refl _⟩
    | some x =>
      refine (Try.slices_Clone_int_zero x cap w).mono ?_
      rintro e w' ⟨v', rfl, ho, hne, hk⟩
      rcases ho.2 with ⟨rfl, hz⟩ | ⟨k, c, cur, rfl, hg, hh, hc1, hm, hs, ht⟩
      · exact absurd rfl hne
      · exact ⟨_, c, rfl, fun j hj => absurd hj (Nat.not_lt_zero j), hk⟩
  · refine (Try.slices_Clone_int b off zs.length cap zs w (Nat.le_refl _) (by omega) hc).mono ?_
    rintro e w' ⟨v', rfl, ho, hne, hk⟩
    rcases ho.2 with ⟨rfl, hz⟩ | ⟨k, c, cur, rfl, hg, hh, hc1, hm, hs, ht⟩
    · exact absurd rfl hne
    · refine ⟨_, c, rfl, fun j hj => ⟨k, rfl, hg, heap_lt hh, ?_, Blk.frozen hh j⟩, hk⟩
      rw [cell_of_row w' k j cur _ (0, 0) hh]
      have e : (cur.toList.take (zs.length * 1))[j]? = some (.int .i64 (zs.getD j 0)) := by
        rw [ht, List.take_length]
        exact getD_map zs j hj
      rw [List.getElem?_take_of_lt (by omega), Array.getElem?_toList] at e
      exact e

def backE (ps : List (Int × Int × Int)) (ls : List Int) (u : Int) : Int := if lentE ps ls = 0 then (if 0 ≤ u ∧ u ≤ 1073741824 then (if ls.sum < u then 8 else 0) else 3) else lentE ps ls
/-- how a call of Back ends -/
def BackEnd (w : World) (ls : List Int) (u : Int) (e : Ending) (w' : World) : Prop :=
  Kpt w w' ∧ ((ls.sum < u ∧ e = .returned (.tuple #[.slice none 0 0, .int .i64 8])) ∨ (u ≤ ls.sum ∧ ∃ a c, e = .returned (.tuple #[.slice a ls.length c, .int .i64 0]) ∧ Reads w' (.slice a ls.length c) (bkL ls u)))

set_option maxRecDepth 100000 in
set_option maxHeartbeats 1000000 in
theorem back_lent (v lv : Value) (ps : List (Int × Int × Int)) (ls : List Int) (u : Int) (w : World) (hr : ReadsP w v ps) (hl : Reads w lv ls) (hw : ∀ z ∈ ls, -9223372036854775808 ≤ z ∧ z ≤ 9223372036854775807) (hE : lentE ps ls ≠ 0) :
    Calls Try.prog 28 #[v, lv, .int .i64 u] w fun e w' => e = .returned (.tuple #[.slice none 0 0, .int .i64 (lentE ps ls)]) ∧ Kpt w w' := by
  have k0 : Kpt w (w.alloc (.cells #[.int .i64 u] 3)) := (Kpt.refl w).alloc _
  have C := Lib.hid (lent_any v lv ps ls _ (hr.kpt k0) (hl.kpt k0) hw)
  have K0 := Lib.hid k0
  have q : (lentE ps ls != 0) = true := bne_iff_ne.2 hE
  clear hr hl hw hE k0
  generalize lentE ps ls = E at *
  go_enter Try.func28, Try.ntmps28
  go_wp2_with (go_at_call 81; (with_reducible refine C.out.mono ?_); rintro e w1 ⟨rfl, k1⟩; have K1 := Lib.hid (ktr K0.out k1); clear k1)
  go_ret2
  exact ⟨rfl, K1.out⟩

set_option maxRecDepth 100000 in
set_option maxHeartbeats 1000000 in
theorem back_rng (v lv : Value) (ps : List (Int × Int × Int)) (ls : List Int) (u : Int) (w : World) (hr : ReadsP w v ps) (hl : Reads w lv ls) (hw : ∀ z ∈ ls, -9223372036854775808 ≤ z ∧ z ≤ 9223372036854775807) (hE : lentE ps ls = 0) (hu : ¬ (0 ≤ u ∧ u ≤ 1073741824)) :
    Calls Try.prog 28 #[v, lv, .int .i64 u] w fun e w' => e = .returned (.tuple #[.slice none 0 0, .int .i64 3]) ∧ Kpt w w' := by
  have k0 : Kpt w (w.alloc (.cells #[.int .i64 u] 3)) := (Kpt.refl w).alloc _
  have C := Lib.hid (lent_any v lv ps ls _ (hr.kpt k0) (hl.kpt k0) hw)
  rw [hE] at C
  have K0 := Lib.hid k0
  have B0 := Lib.hid (Blk.made w #[.int .i64 u] 3)
  clear hr hl hw hE k0
  by_cases h1 : u < 0
  · have q1 : decide (u < 0) = true := decide_eq_true h1
    clear h1 hu
    go_enter Try.func28, Try.ntmps28
    go_wp2_with (go_at_call 81; (with_reducible refine C.out.mono ?_); rintro e w1 ⟨rfl, k1⟩; have K1 := Lib.hid (ktr K0.out k1); have b1 : World.cell? w1 ⟨w.heap.size, 0, none⟩ = some (.int .i64 u) := (B0.out.kpt k1).cell 0; clear k1)
    go_ret2
    exact ⟨rfl, K1.out⟩
  · have q1 : decide (u < 0) = false := decide_eq_false h1
    have q2 : decide (1073741824 < u) = true := decide_eq_true (by omega)
    clear h1 hu
    go_enter Try.func28, Try.ntmps28
    go_wp2_with (go_at_call 81; (with_reducible refine C.out.mono ?_); rintro e w1 ⟨rfl, k1⟩; have K1 := Lib.hid (ktr K0.out k1); have b1 : World.cell? w1 ⟨w.heap.size, 0, none⟩ = some (.int .i64 u) := (B0.out.kpt k1).cell 0; clear k1)
    go_ret2
    exact ⟨rfl, K1.out⟩

theorem setD_self {L : List Int} {q : Nat} (h : q < L.length) (z : Int) : (L.set q z).getD q 0 = z := by
  rw [List.getD_eq_getElem?_getD, List.getElem?_set_self h]; rfl
theorem setD_ne {L : List Int} {q j : Nat} (h : q ≠ j) (z : Int) : (L.set q z).getD j 0 = L.getD j 0 := by
  rw [List.getD_eq_getElem?_getD, List.getElem?_set_ne h, ← List.getD_eq_getElem?_getD]
/-- what stands there between two rounds -/
structure BkI (ls : List Int) (u : Int) (pre : List (Fin ls.length)) (L : List Int) (r : Int) : Prop where
  len : L.length = ls.length
  r0 : 0 ≤ r
  r1 : r ≤ u
  bd : ∀ j : Nat, j < ls.length → -(u - r) ≤ L.getD j 0 ∧ L.getD j 0 ≤ 1073741824
  is : pre = bwd ls.length pre.length → pre.length ≤ ls.length → L = mixT ls (bkL ls u) (ls.length - pre.length) ∧ r = rsL ls u pre.length
theorem bkI_0 {ls : List Int} {u : Int} (hu : 0 ≤ u) (hb : ∀ k : Nat, k < ls.length → 0 ≤ ls.getD k 0 ∧ ls.getD k 0 ≤ 1073741824) : BkI ls u [] ls u where
  len := rfl
  r0 := hu
  r1 := Int.le_refl _
  bd j hj := by have := hb j hj; omega
  is _ _ := ⟨by rw [List.length_nil, Nat.sub_zero, mixT_all _ _ (bkL_len ls u).symm], (rsL_zero ls u).symm⟩
theorem bkI_s {ls : List Int} {u : Int} {pre : List (Fin ls.length)} {L : List Int} {r : Int} (h : BkI ls u pre L r) (hb : ∀ k : Nat, k < ls.length → 0 ≤ ls.getD k 0 ∧ ls.getD k 0 ≤ 1073741824) (q : Fin ls.length) :
    BkI ls u (pre ++ [q]) (L.set q.1 (L.getD q.1 0 - min r (ls.getD q.1 0))) (r - min r (ls.getD q.1 0)) where
  len := by rw [List.length_set, h.len]
  r0 := by have := h.r0; have := hb q.1 q.2; omega
  r1 := by have := h.r0; have := h.r1; have := hb q.1 q.2; omega
  bd j hj := by
    have h0 := h.r0
    have h1 := h.bd j hj
    have h2 := hb q.1 q.2
    by_cases e : q.1 = j
    · rw [e] at h2 ⊢
      rw [setD_self (by rw [h.len]; exact hj)]; omega
    · rw [setD_ne e]; omega
  is hp hl := by
    rw [List.length_append, List.length_singleton] at hp hl ⊢
    have hlt : pre.length < ls.length := hl
    rw [bwd_succ hlt] at hp
    obtain ⟨e1, e2⟩ := List.append_inj hp (by rw [bwd_len (by omega)])
    obtain ⟨i1, i2⟩ := h.is e1 (by omega)
    have hq : q = ⟨ls.length - 1 - pre.length, by omega⟩ := by simpa using e2
    have hq1 : q.1 = ls.length - 1 - pre.length := by rw [hq]
    have hk : ls.length - pre.length = q.1 + 1 := by omega
    have hk2 : ls.length - (pre.length + 1) = q.1 := by omega
    have hR := bkL_at ls u pre.length hlt
    rw [← hq1] at hR
    refine ⟨?_, ?_⟩
    · rw [i1, i2, hk, hk2, mixT_at _ _ (bkL_len ls u).symm _ q.2, ← hR]
      exact mixT_put _ _ (bkL_len ls u).symm _ q.2
    · rw [i2, rsL_succ ls u _ hlt, ← hq1]

set_option maxRecDepth 100000 in
set_option maxHeartbeats 4000000 in
theorem back_go (v : Value) (la : Option Addr) (lc : Nat) (ps : List (Int × Int × Int)) (ls : List Int) (u : Int) (w : World) (hr : ReadsP w v ps) (hl : Reads w (.slice la ls.length lc) ls) (hw : ∀ z ∈ ls, -9223372036854775808 ≤ z ∧ z ≤ 9223372036854775807) (hE : lentE ps ls = 0) (hu : 0 ≤ u ∧ u ≤ 1073741824) :
    Calls Try.prog 28 #[v, .slice la ls.length lc, .int .i64 u] w (BackEnd w ls u) := by
  have k0 : Kpt w (w.alloc (.cells #[.int .i64 u] 3)) := (Kpt.refl w).alloc _
  have C := Lib.hid (lent_any v _ ps ls _ (hr.kpt k0) (hl.kpt k0) hw)
  obtain ⟨hE1, hE2, hE3⟩ := lent_0 hE
  obtain ⟨h40, hall⟩ := loan_0 hE1
  have hn : ls.length ≤ 40 := by omega
  have hb : ∀ k : Nat, k < ls.length → 0 ≤ ls.getD k 0 ∧ ls.getD k 0 ≤ 1073741824 := fun k hk => by
    have h1 := hE3 k (by omega)
    have h2 := off_t (hall _ (getP_mem (k := k) (by omega)))
    omega
  have hz : ∀ z ∈ ls, 0 ≤ z := fun z hz => by
    obtain ⟨j, hj, rfl⟩ := List.getElem_of_mem hz
    have := hb j hj
    rw [List.getD_eq_getElem?_getD, List.getElem?_eq_getElem hj] at this
    exact this.1
  rw [hE] at C
  have CL := Lib.hid (fun w' (k : Kpt w w') => cloneL_run _ ls w' (hl.kpt k) (by omega))
  have K0 := Lib.hid k0
  have B0 := Lib.hid (Boxed.new w 3 (.int .i64 u))
  have HB := Lib.hid hb
  have HZ := Lib.hid hz
  have HL := Lib.hid hl
  have q1 : decide (u < 0) = false := decide_eq_false (by omega)
  have q2 : decide (1073741824 < u) = false := decide_eq_false (by omega)
  clear hr hl hw hE k0 hb hz hE1 hE2 hE3 h40 hall
  refine (callsIn_wide (n := 3)).1 ?_
  refine callsIn_of_wp_marks Try.func28 rfl trivial ?_ rfl
  simp only [Try.ntmps28, List.size_toArray, List.length_cons, List.length_nil, Nat.reduceAdd, Nat.reduceSub, Array.replicate_succ, Array.replicate_zero, List.push_toArray, List.append_toArray, List.nil_append, List.cons_append]
  gi_wp2_with (first
    | (refine ⟨trivial, ?_⟩; gi_at_call 81; (with_reducible refine (callsIn_wide.2 C.out).mono ?_); rintro e w1 ⟨rfl, k1⟩; have K1 := Lib.hid (ktr K0.out k1); have B1 : Hid (Boxed w1 w.heap.size 3 (.int .i64 u)) := Blk.kpt B0.out k1; have b1 := B1.out.cell; have s1 : w.heap.size < w1.heap.size := B1.out.lt; clear k1)
    | (refine ⟨trivial, ?_⟩; gi_at_call 82; (with_reducible refine (callsIn_wide.2 (CL.out _ K1.out)).mono ?_); rintro e w2 ⟨a, c, rfl, ci, k2⟩; have K2 := Lib.hid (ktr K1.out k2); have B2 : Hid (Boxed w2 w.heap.size 3 (.int .i64 u)) := Blk.kpt B1.out k2; have CI := Lib.hid ci; have s2 : w1.heap.size ≤ w2.heap.size := Below.size k2; clear k2 ci)
    | (refine ⟨trivial, ?_⟩; gi_at_call 83; (with_reducible refine (callsIn_wide.2 (backward_run _ _ _ _)).mono ?_); rintro e w' ⟨rfl, rfl⟩))
  obtain ⟨w3, hw3⟩ : ∃ w3, ((w2.alloc (.cells #[.slice a ls.length c] 22)).alloc (.cells #[.slice la ls.length lc] 22)) = w3 := ⟨_, rfl⟩
  have k23 : Kpt w2 w3 := by rw [← hw3]; exact ((Kpt.refl w2).alloc _).alloc _
  have sz : w3.heap.size = w2.heap.size + 2 := by rw [← hw3]; simp
  have x1 : Boxed w3 w.heap.size 3 (.int .i64 u) := Blk.kpt B2.out k23
  have x2 : Boxed w3 w2.heap.size 22 (.slice a ls.length c) := by rw [← hw3]; exact (Boxed.new _ _ _).alloc _
  have x3 : w3.cell? ⟨w2.heap.size + 1, 0, none⟩ = some (.slice la ls.length lc) := by rw [← hw3]; simp [go_sem]
  have x4 : CellsI w1.heap.size w2.heap.size w3 a ls := CI.out.kpt k23
  have k3 : Below w.heap.size w w3 := ktr K2.out k23
  have ST := bwd_stops 2 (by omega) w.heap.size w w3 rfl la lc ls (w2.heap.size + 1) (by omega) HL.out k3 x3
  rw [hw3]
  clear hw3 k23 CI B2 B1 B0 C CL b1 K0 K1 K2 x3 HL
  refine wpIn_rangeFunc_ownF rfl (by omega) (gf := 120) (lb := #[.pointer (some ⟨w2.heap.size + 1, 0, none⟩)]) rfl trivial (enters_of Try.func120 (by kernel_rfl) rfl)
    ST KpB.t (KpB.b (by omega) (by omega)) (Below.refl _ _) (fun _ => rfl)
    (fun pre W => (∃ (L : List Int) (r : Int), Boxed W w.heap.size 3 (.int .i64 r) ∧ Boxed W w2.heap.size 22 (.slice a ls.length c) ∧ CellsI w1.heap.size w2.heap.size W a L ∧ BkI ls u pre L r) ∧ Below w.heap.size w W)
    (fun _ _ _ => False)
    (OwnFrom.and (Own.from (fun s A B row hs hg hr => by obtain ⟨L, r, h1, h2, h3, h4⟩ := hs; exact ⟨L, r, boxed_own (β := Unit) _ _ (fun _ => _) () A B row h1 hg hr, boxed_own (β := Unit) _ _ (fun _ => _) () A B row h2 hg hr, h3.own hg hr, h4⟩) _) (ownFrom_below (Nat.le_refl _) (by omega)))
    (fun _ _ _ _ _ hs _ _ => hs)
    ⟨⟨ls, u, x1, x2, x4, bkI_0 hu.1 HB.out⟩, k3⟩
    (fun x => { tmps := #[v, .slice la ls.length lc, .int .i64 u, undef, undef, .pointer (some ⟨w.heap.size, 0, none⟩), .slice none 0 0, .int .i64 0, .int .i64 0, .pointer (some ⟨w2.heap.size, 0, none⟩), .int .i64 ((x.1 : Nat) : Int), .int .i64 (ls.getD x.1 0), undef, v, .slice la ls.length lc, .int .i64 0, .int .i64 0, .bool false, undef, .int .i64 u, .bool false, .bool false, .int .i64 u, .bool false, .bool false, .slice la ls.length lc, .slice a ls.length c, .slice la ls.length lc, .func (.func 120) #[] #[.pointer (some ⟨w2.heap.size + 1, 0, none⟩)], .int .i64 ((x.1 : Nat) : Int), .int .i64 (ls.getD x.1 0), undef, undef, undef, undef, undef, undef, undef, undef, undef, undef, undef, undef, undef, undef, undef, undef], defers := [] }) ?assign ?body ?done ?stop
  case assign =>
    intro l x W K hK
    generalize ls.getD x.1 0 = y at hK ⊢
    gi_wp2
    exact hK
  case body =>
    clear x1 x2 x4 k3 ST
    rintro l pre x W ⟨⟨L, r, b1, b2, ci, hI⟩, hB⟩ _
    have HI := Lib.hid (bkI_s hI HB.out x)
    have hbd := hI.bd x.1 x.2
    have hr0 := hI.r0
    have hr1 := hI.r1
    have hy := HB.out x.1 x.2
    obtain ⟨g, rfl, g1, g2, cq, fq⟩ := ci x.1 (by rw [hI.len]; exact x.2)
    have CI := Lib.hid (ci.put (k := x.1) (by rw [hI.len]; exact x.2) (L.getD x.1 0 - min r (ls.getD x.1 0)))
    have hq : x.1 < ls.length := x.2
    have HX1 := Lib.hid b1
    have HX2 := Lib.hid b2
    have HBB := Lib.hid hB
    clear ci hI
    obtain ⟨q, hq'⟩ : ∃ q, x.1 = q := ⟨_, rfl⟩
    rw [hq'] at cq fq HI CI hbd hy hq ⊢
    generalize ls.getD q 0 = y at *
    generalize L.getD q 0 = z at *
    obtain ⟨t, ht⟩ : ∃ t, min r y = t := ⟨_, rfl⟩
    rw [ht] at HI CI
    have t0 : 0 ≤ t := by omega
    have t1 : t ≤ r := by omega
    obtain ⟨z0, z1⟩ := hbd
    obtain ⟨y0, y1⟩ := hy
    have q0 : (0 : Int) ≤ (q : Int) := by omega
    have q3 : (q : Int) < ls.length := by omega
    have c5 := b1.cell
    have f5 := b1.frozen
    have c9 := b2.cell
    have e5 : (W.setCell ⟨g, q, none⟩ (.int .i64 (z - t))).cell? ⟨w.heap.size, 0, none⟩ = some (.int .i64 r) := set_far (by show g ≠ w.heap.size; omega) c5
    have m1 : IntKind.i64.wrap (z - t) = z - t := IntWalk.i64_in _ (by omega)
    have m2 : IntKind.i64.wrap (r - t) = r - t := IntWalk.i64_in _ (by omega)
    have Hu := Lib.hid hu
    clear hq' b1 b2 hB hu
    gi_wp2
    have hgB : g ≠ w2.heap.size + 1 := by omega
    refine ⟨((KeepsOthers.setCell _ _ _).trans (KeepsOthers.setCell _ _ _)), ⟨((Below.refl w.heap.size W).setCell (p := ⟨g, q, none⟩) (by show w.heap.size ≤ g; omega) _).setCell (p := ⟨w.heap.size, 0, none⟩) (Nat.le_refl _) _, ?_⟩, ⟨⟨_, _, ?_, ?_, ?_, HI.out⟩, (HBB.out.setCell (p := ⟨g, q, none⟩) (by show w.heap.size ≤ g; omega) _).setCell (p := ⟨w.heap.size, 0, none⟩) (Nat.le_refl _) _⟩⟩
    · rw [Below.heap_setCell _ _ _ _ (by show w2.heap.size + 1 ≠ w.heap.size; omega), Below.heap_setCell _ _ _ _ (by show w2.heap.size + 1 ≠ g; omega)]
    · exact Boxed.set _ (Blk.away HX1.out (p := ⟨g, q, none⟩) (by show w.heap.size ≠ g; omega) _)
    · exact Blk.away (Blk.away HX2.out (p := ⟨g, q, none⟩) (by show w2.heap.size ≠ g; omega) _) (p := ⟨w.heap.size, 0, none⟩) (by show w2.heap.size ≠ w.heap.size; omega) _
    · exact CI.out.away (.inl (by show w.heap.size < w1.heap.size; omega)) _
  case done =>
    clear x1 x2 x4 k3 ST
    rintro D ys W hD rfl ⟨⟨L, r, b1, b2, ci, hI⟩, hB⟩ hK
    have hl : (bwd ls.length ls.length).length = ls.length := bwd_len (Nat.le_refl _)
    have hx := hI.is (by rw [hl]) (by rw [hl]; exact Nat.le_refl _)
    rw [hl, Nat.sub_self, mixT_none, rsL_all ls u HZ.out hu.1] at hx
    obtain ⟨rfl, hr⟩ := hx
    have c5 := b1.cell
    have c9 := b2.cell
    have HLL := Lib.hid (bkL_len ls u)
    have HBE := Lib.hid (hB.trans (belowK_b (w := w) (Nat.le_refl _) W D (.deferred (some [])) (.deferred none) (by omega) hK rfl rfl))
    have CI := Lib.hid (ci.own (grownBy_putObj' W D (.deferred none)) (fun r e => by cases e; exact ⟨_, hK, rfl⟩))
    have HK := Lib.hid hK
    clear ci hI hB hK b1 b2 hl
    by_cases hlt : ls.sum < u
    · have r1 : 0 < r := by omega
      have HS := Lib.hid hlt
      clear hr hlt hu
      gi_wp2
      refine ⟨by simp, .inl ⟨_, _, rfl, run_takeDeferred HK.out, ?_⟩⟩
      exact ⟨_, results_tmp2 Try.results28 _ _ _, HBE.out, .inl ⟨HS.out, rfl⟩⟩
    · obtain rfl : r = 0 := by omega
      have HS : Hid (u ≤ ls.sum) := by unfold Hid; omega
      clear hr hlt hu
      gi_wp2
      refine ⟨by simp, .inl ⟨_, _, rfl, run_takeDeferred HK.out, ?_⟩⟩
      refine ⟨_, results_tmp2 Try.results28 _ _ _, HBE.out, .inr ⟨HS.out, a, c, rfl, ?_⟩⟩
      have := CI.out.reads (by rw [HLL.out]; unfold maxLen; omega) c
      rw [HLL.out] at this
      exact this
  case stop =>
    rintro D c pre W _ _ h _
    exact h.elim

end Go.Proofs.Ytmecggncedhehaa
