/-
  Merged: CompA, SlV, CompB, CompC.
-/
import Derived.Test.YthaahebggboliaaGreatMp1
import Derived.RangeFuncBox
import Derived.RangeFuncNested
import Derived.RangeFuncBound
import Derived.RangeFuncCalls
import Derived.RangeFuncLeaves
import Derived.RangeFuncFrom
import Derived.RangeFuncWrites
import Derived.Shelf.Abstract
import Derived.Shelf.RegionOpen
import Derived.OwnWalkIn
import Derived.TacticsInMore
import Derived.LoopNIn
import Derived.LoopIn
import Derived.Maps.AppendAt
import Derived.Sort.OwnSortedInts
import Derived.Test.YthaahebggboliaaGreatShelf
import Derived.Test.YthaahebggboliaaGreatOwn
import Derived.Test.YthaahebggboliaaGreatKept
import Derived.Test.YthaahebggboliaaGreatSl
import Derived.Test.YthaahebggboliaaGreatMf2
import Derived.Test.YthaahebggboliaaGreatTrip
import Derived.Deep.Cut
-- CompA
namespace Go.Proofs.YthaahebggboliaaGreat
open Go.RowKit
set_option linter.unusedVariables false

def wthB (u p x : Int) : Bool := decide (0 ≤ u ∧ u ≤ 1073741824) && decide (0 ≤ x ∧ x ≤ 10000) && prcB p
theorem wth_t {u p x : Int} (h : wthB u p x = true) : (0 ≤ u ∧ u ≤ 1073741824) ∧ (0 ≤ x ∧ x ≤ 10000) ∧ 0 ≤ p ∧ p ≤ 1099511627776 := by
  unfold wthB at h
  simp only [Bool.and_eq_true] at h
  exact ⟨of_decide_eq_true h.1.1, of_decide_eq_true h.1.2, prc_t h.2⟩
theorem wth_mk {u p x : Int} (h1 : 0 ≤ u ∧ u ≤ 1073741824) (h2 : 0 ≤ x ∧ x ≤ 10000) (h3 : 0 ≤ p ∧ p ≤ 1099511627776) : wthB u p x = true := by
  unfold wthB prcB
  rw [decide_eq_true h1, decide_eq_true h2, decide_eq_true h3]; rfl
def wthE (u p x : Int) : Int := if wthB u p x = true then 0 else 3
def wthV (u p x : Int) : Int := u * p / 10000 + u * p / 10000 * x / 10000
def wthQ (u p x : Int) : Int := if wthB u p x = true then wthV u p x else 0
theorem wth_bd {u p x : Int} (h1 : 0 ≤ u ∧ u ≤ 1073741824) (h2 : 0 ≤ x ∧ x ≤ 10000) (h3 : 0 ≤ p ∧ p ≤ 1099511627776) : 0 ≤ u * p / 10000 * x / 10000 ∧ u * p / 10000 * x / 10000 ≤ u * p / 10000 := by
  have c := cost_bd h1 h3
  have a : 0 ≤ u * p / 10000 * x := Int.mul_nonneg c.1 h2.1
  have b : u * p / 10000 * x ≤ u * p / 10000 * 10000 := Int.mul_le_mul_of_nonneg_left h2.2 c.1
  omega
set_option maxHeartbeats 1000000 in
theorem worth_any (u p x : Int) (w : World) : Calls Tryz.prog 153 #[.int .i64 u, .int .i64 p, .int .i64 x] w fun e w' => e = .returned (.tuple #[.int .i64 (wthQ u p x), .int .i64 (wthE u p x)]) ∧ Kpt w w' := by
  by_cases hu : 0 ≤ u ∧ u ≤ 1073741824
  · by_cases hr : 0 ≤ x ∧ x ≤ 10000
    · have CA := Lib.hid (fun w => cost_any u p w)
      have cd := cos_dly (p := p) hu
      rw [cd.1, cd.2] at CA
      have y1 : ¬ u < 0 := by omega
      have y2 : ¬ 1073741824 < u := by omega
      have y3 : ¬ x < 0 := by omega
      have y4 : ¬ 10000 < x := by omega
      cases hp : prcB p with
      | true =>
        have hb : wthB u p x = true := wth_mk hu hr (prc_t hp)
        have hE : wthE u p x = 0 := by unfold wthE; rw [if_pos hb]
        have hQ : wthQ u p x = u * p / 10000 + u * p / 10000 * x / 10000 := by unfold wthQ; rw [if_pos hb]; rfl
        rw [hp, if_pos rfl, if_pos rfl] at CA
        rw [hE, hQ]
        have c := cost_bd hu (prc_t hp)
        have d := wth_bd hu hr (prc_t hp)
        have PT := Lib.hid (fun w => part_ok (u * p / 10000) x 10000 (amt_mk (by omega) (by omega)) (rng_mk hr.1 (by omega) (by decide) (by decide)) (amt_mk (by omega) (by omega)) w)
        obtain ⟨c0, c1⟩ := c
        obtain ⟨d0, d1⟩ := d
        clear hE hQ hb cd hu hr hp
        generalize u * p / 10000 = k at *
        generalize cosR u p = m at *
        generalize k * x / 10000 = n at *
        generalize k * x % 10000 = o at *
        go_enter Tryz.func153, Tryz.ntmps153
        go_wp2_with (first
          | (go_at_call 173; (with_reducible refine (CA.out _).mono ?_); rintro e w1 ⟨rfl, g1⟩)
          | (go_at_call 174; (with_reducible refine (PT.out _).mono ?_); rintro e w2 ⟨rfl, g2⟩))
        go_ret2
        exact ⟨rfl, ktr g1 g2.kpt⟩
      | false =>
        have hb : wthB u p x = false := by unfold wthB; rw [hp]; simp
        have hE : wthE u p x = 3 := by unfold wthE; rw [hb]; rfl
        have hQ : wthQ u p x = 0 := by unfold wthQ; rw [hb]; rfl
        rw [hp, if_neg (by decide), if_neg (by decide)] at CA
        rw [hE, hQ]
        clear hE hQ hb cd hu hr hp
        generalize cosR u p = m at *
        go_enter Tryz.func153, Tryz.ntmps153
        go_wp2_with (go_at_call 173; (with_reducible refine (CA.out _).mono ?_); rintro e w1 ⟨rfl, g1⟩)
        go_ret2
        exact ⟨rfl, g1⟩
    · have hb : wthB u p x = false := by unfold wthB; rw [decide_eq_false hr]; simp
      have hE : wthE u p x = 3 := by unfold wthE; rw [hb]; rfl
      have hQ : wthQ u p x = 0 := by unfold wthQ; rw [hb]; rfl
      rw [hE, hQ]
      have y1 : ¬ u < 0 := by omega
      have y2 : ¬ 1073741824 < u := by omega
      by_cases y3 : x < 0
      · clear hE hQ hb hu hr
        go_enter Tryz.func153, Tryz.ntmps153
        go_wp2
        go_ret2
        exact ⟨rfl, Kpt.refl _⟩
      · have y4 : 10000 < x := by omega
        clear hE hQ hb hu hr
        go_enter Tryz.func153, Tryz.ntmps153
        go_wp2
        go_ret2
        exact ⟨rfl, Kpt.refl _⟩
  · have hb : wthB u p x = false := by unfold wthB; rw [decide_eq_false hu]; simp
    have hE : wthE u p x = 3 := by unfold wthE; rw [hb]; rfl
    have hQ : wthQ u p x = 0 := by unfold wthQ; rw [hb]; rfl
    rw [hE, hQ]
    by_cases y3 : u < 0
    · clear hE hQ hb hu
      go_enter Tryz.func153, Tryz.ntmps153
      go_wp2
      go_ret2
      exact ⟨rfl, Kpt.refl _⟩
    · have y4 : 1073741824 < u := by omega
      clear hE hQ hb hu
      go_enter Tryz.func153, Tryz.ntmps153
      go_wp2
      go_ret2
      exact ⟨rfl, Kpt.refl _⟩

def limB (p s m : Int) : Bool := prcB p && prcB s && decide (0 ≤ m ∧ m ≤ 10000)
theorem lim_t {p s m : Int} (h : limB p s m = true) : (0 ≤ p ∧ p ≤ 1099511627776) ∧ (0 ≤ s ∧ s ≤ 1099511627776) ∧ 0 ≤ m ∧ m ≤ 10000 := by
  unfold limB at h
  simp only [Bool.and_eq_true] at h
  exact ⟨prc_t h.1.1, prc_t h.1.2, of_decide_eq_true h.2⟩
theorem lim_mk {p s m : Int} (h1 : 0 ≤ p ∧ p ≤ 1099511627776) (h2 : 0 ≤ s ∧ s ≤ 1099511627776) (h3 : 0 ≤ m ∧ m ≤ 10000) : limB p s m = true := by
  unfold limB prcB
  rw [decide_eq_true h1, decide_eq_true h2, decide_eq_true h3]; rfl
def limE (p s m : Int) : Int := if limB p s m = true then 0 else 3
def limV (p s m : Int) : Int := max (s - s * m / 10000) (min p (s + s * m / 10000))
def limQ (p s m : Int) : Int := if limB p s m = true then limV p s m else 0
theorem lim_bd {s m : Int} (h2 : 0 ≤ s ∧ s ≤ 1099511627776) (h3 : 0 ≤ m ∧ m ≤ 10000) : 0 ≤ s * m / 10000 ∧ s * m / 10000 ≤ s := by
  have a : 0 ≤ s * m := Int.mul_nonneg h2.1 h3.1
  have b : s * m ≤ s * 10000 := Int.mul_le_mul_of_nonneg_left h3.2 h2.1
  omega
end Go.Proofs.YthaahebggboliaaGreat

-- SlV
namespace Go.Proofs.YthaahebggboliaaGreat
open Go.RowKit Go.Shelf
set_option linter.unusedVariables false
attribute [local go_sem] Oper.semAt_some

theorem take_snoc {zs : List Int} {k : Nat} (h : k < zs.length) : zs.take (k + 1) = zs.take k ++ [zs.getD k 0] := by
  rw [List.take_succ_eq_append_getElem h]; simp [List.getD_eq_getElem?_getD, h]

/-- the numbers, in order -/
def srt (zs : List Int) : List Int := zs.mergeSort fun x y => decide (x ≤ y)
theorem srt_len (zs : List Int) : (srt zs).length = zs.length := by unfold srt; simp
theorem srt_sorted (zs : List Int) : (srt zs).Pairwise (· ≤ ·) := by
  have h : (srt zs).Pairwise (fun a b => decide (a ≤ b) = true) := List.pairwise_mergeSort (fun a b c h g => decide_eq_true (by have := of_decide_eq_true h; have := of_decide_eq_true g; omega)) (fun a b => by
    by_cases h : a ≤ b
    · rw [decide_eq_true h]; rfl
    · rw [show decide (b ≤ a) = true from decide_eq_true (by omega), Bool.or_true]) _
  exact h.imp (fun h => of_decide_eq_true h)
theorem srt_is {zs ys : List Int} (h : ys.Perm zs) (g : ys.Pairwise (· ≤ ·)) : srt zs = ys :=
  List.Perm.eq_of_pairwise (fun a b _ _ h g => Int.le_antisymm h g) (srt_sorted zs) g ((List.mergeSort_perm _ _).trans h.symm)
theorem srt_perm (zs : List Int) : (srt zs).Perm zs := by unfold srt; exact List.mergeSort_perm _ _

end Go.Proofs.YthaahebggboliaaGreat

-- CompB
namespace Go.Proofs.YthaahebggboliaaGreat
open Go.RowKit
set_option linter.unusedVariables false

def midE (zs : List Int) : Int := if zs.length = 0 then 1 else if 40 < zs.length then 2 else if zs.all prcB = true then 0 else 3
def midQ (zs : List Int) : Int := if midE zs = 0 then (srt zs).getD ((zs.length - 1) / 2) 0 else 0
theorem mid_0 {zs : List Int} (h : midE zs = 0) : 0 < zs.length ∧ zs.length ≤ 40 ∧ zs.all prcB = true ∧ midQ zs = (srt zs).getD ((zs.length - 1) / 2) 0 := by
  unfold midQ
  rw [if_pos h]
  unfold midE at h
  split at h
  · cases h
  · split at h
    · cases h
    · split at h
      · rename_i a b c; exact ⟨by omega, by omega, c, rfl⟩
      · cases h
theorem mid_no {zs : List Int} (h : midE zs ≠ 0) : midQ zs = 0 ∧ (midE zs = 1 ∨ midE zs = 2 ∨ midE zs = 3) := by
  unfold midQ
  rw [if_neg h]
  refine ⟨rfl, ?_⟩
  unfold midE at h ⊢
  split
  · exact .inl rfl
  · split
    · exact .inr (.inl rfl)
    · split
      · rename_i a b c; rw [if_neg a, if_neg b, if_pos c] at h; exact absurd rfl h
      · exact .inr (.inr rfl)
theorem all_upto {zs : List Int} {k : Nat} (h : zs.all prcB = true) (hk : k < zs.length) : prcB (zs.getD k 0) = true := by
  rw [List.getD_eq_getElem?_getD, List.getElem?_eq_getElem hk]
  exact List.all_eq_true.1 h _ (List.getElem_mem hk)

end Go.Proofs.YthaahebggboliaaGreat

-- CompC
namespace Go.Proofs.YthaahebggboliaaGreat
open Go.RowKit
set_option linter.unusedVariables false

/-- what a call of fail.Pay answers -/
def FpIs (F G : Array Value) (l E : Int) : Prop := ∀ w, Calls Tryz.prog 78 #[.agg F] w fun e w' => e = .returned (.tuple #[.agg G, .int .i64 l, .int .i64 E]) ∧ Kpt w w'
theorem FpIs.run {F G : Array Value} {l E : Int} (h : FpIs F G l E) (w : World) : Calls Tryz.prog 78 #[.agg F] w fun e w' => e = .returned (.tuple #[.agg G, .int .i64 l, .int .i64 E]) ∧ Kpt w w' := h w
def WtIs (u p x n e : Int) : Prop := ∀ w, Calls Tryz.prog 153 #[.int .i64 u, .int .i64 p, .int .i64 x] w fun r w' => r = .returned (.tuple #[.int .i64 n, .int .i64 e]) ∧ Kpt w w'
theorem WtIs.run {u p x n e : Int} (h : WtIs u p x n e) (w : World) : Calls Tryz.prog 153 #[.int .i64 u, .int .i64 p, .int .i64 x] w fun r w' => r = .returned (.tuple #[.int .i64 n, .int .i64 e]) ∧ Kpt w w' := h w
theorem wt_is (u p x : Int) : WtIs u p x (wthQ u p x) (wthE u p x) := worth_any u p x

set_option maxRecDepth 100000 in
set_option maxHeartbeats 2000000 in
theorem cpay_err (i f t c p d u x b y y2 l E n P X : Int) (h : E ≠ 0) (FP0 : FpIs #[.int .i64 i, .int .i64 f, .int .i64 t, .int .i64 c, .int .i64 p, .int .i64 d, .int .i64 u, .int .i64 x, .int .i64 b, .int .i64 y] #[.int .i64 0, .int .i64 0, .int .i64 0, .int .i64 0, .int .i64 0, .int .i64 0, .int .i64 0, .int .i64 0, .int .i64 0, .int .i64 0] 0 E) (w : World) :
    Calls Tryz.prog 124 #[.agg #[.int .i64 i, .int .i64 f, .int .i64 t, .int .i64 c, .int .i64 p, .int .i64 d, .int .i64 u, .int .i64 x, .int .i64 b, .int .i64 y], .int .i64 P, .int .i64 X] w fun e w' => e = .returned (.tuple #[.agg #[.int .i64 0, .int .i64 0, .int .i64 0, .int .i64 0, .int .i64 0, .int .i64 0, .int .i64 0, .int .i64 0, .int .i64 0, .int .i64 0], .slice none 0 0, .int .i64 E]) ∧ Kpt w w' := by
  have FP := Lib.hid FP0
  have q : (E != 0) = true := bne_iff_ne.2 h
  clear FP0 h
  have BF : Hid (Blk ((w.alloc (.cells #[.int .i64 i, .int .i64 f, .int .i64 t, .int .i64 c, .int .i64 p, .int .i64 d, .int .i64 u, .int .i64 x, .int .i64 b, .int .i64 y] 42)).alloc (.cells #[.int .i64 0, .int .i64 0, .int .i64 0, .int .i64 0, .int .i64 0, .int .i64 0, .int .i64 0, .int .i64 0, .int .i64 0, .int .i64 0] 42)) w.heap.size #[.int .i64 i, .int .i64 f, .int .i64 t, .int .i64 c, .int .i64 p, .int .i64 d, .int .i64 u, .int .i64 x, .int .i64 b, .int .i64 y] 42) := (Blk.made w #[.int .i64 i, .int .i64 f, .int .i64 t, .int .i64 c, .int .i64 p, .int .i64 d, .int .i64 u, .int .i64 x, .int .i64 b, .int .i64 y] 42).alloc _
  go_enter Tryz.func124, Tryz.ntmps124
  go_wp2_with (first
    | (refine wp_loadF rfl (.tmp 3) rfl w.heap.size _ rfl BF.out rfl ?_)
    | (go_at_call 78; (with_reducible refine (FP.out.run _).mono ?_); rintro e w1 ⟨rfl, k1⟩; have K1 := Lib.hid (ktr (((Kpt.refl w).alloc (.cells #[.int .i64 i, .int .i64 f, .int .i64 t, .int .i64 c, .int .i64 p, .int .i64 d, .int .i64 u, .int .i64 x, .int .i64 b, .int .i64 y] 42)).alloc (.cells #[.int .i64 0, .int .i64 0, .int .i64 0, .int .i64 0, .int .i64 0, .int .i64 0, .int .i64 0, .int .i64 0, .int .i64 0, .int .i64 0] 42)) k1); have B1 : Hid (Blk w1 w.heap.size #[.int .i64 i, .int .i64 f, .int .i64 t, .int .i64 c, .int .i64 p, .int .i64 d, .int .i64 u, .int .i64 x, .int .i64 b, .int .i64 y] 42) := Blk.kpt ((Blk.made w #[.int .i64 i, .int .i64 f, .int .i64 t, .int .i64 c, .int .i64 p, .int .i64 d, .int .i64 u, .int .i64 x, .int .i64 b, .int .i64 y] 42).alloc _) k1; have R1 : Hid (Blk w1 (w.heap.size + 1) #[.int .i64 0, .int .i64 0, .int .i64 0, .int .i64 0, .int .i64 0, .int .i64 0, .int .i64 0, .int .i64 0, .int .i64 0, .int .i64 0] 42) := Blk.kpt (by have := Blk.made (w.alloc (.cells #[.int .i64 i, .int .i64 f, .int .i64 t, .int .i64 c, .int .i64 p, .int .i64 d, .int .i64 u, .int .i64 x, .int .i64 b, .int .i64 y] 42)) #[.int .i64 0, .int .i64 0, .int .i64 0, .int .i64 0, .int .i64 0, .int .i64 0, .int .i64 0, .int .i64 0, .int .i64 0, .int .i64 0] 42; rwa [World.size_alloc] at this) k1; have D1 : Hid (Blk (w1.alloc (.cells #[.int .i64 0, .int .i64 0, .int .i64 0, .int .i64 0, .int .i64 0, .int .i64 0, .int .i64 0, .int .i64 0, .int .i64 0, .int .i64 0] 42)) w1.heap.size #[.int .i64 0, .int .i64 0, .int .i64 0, .int .i64 0, .int .i64 0, .int .i64 0, .int .i64 0, .int .i64 0, .int .i64 0, .int .i64 0] 42) := Blk.made _ _ _; have K2 := Lib.hid (K1.out.alloc (.cells #[.int .i64 0, .int .i64 0, .int .i64 0, .int .i64 0, .int .i64 0, .int .i64 0, .int .i64 0, .int .i64 0, .int .i64 0, .int .i64 0] 42)); have R2 : Hid (Blk (w1.alloc (.cells #[.int .i64 0, .int .i64 0, .int .i64 0, .int .i64 0, .int .i64 0, .int .i64 0, .int .i64 0, .int .i64 0, .int .i64 0, .int .i64 0] 42)) (w.heap.size + 1) #[.int .i64 0, .int .i64 0, .int .i64 0, .int .i64 0, .int .i64 0, .int .i64 0, .int .i64 0, .int .i64 0, .int .i64 0, .int .i64 0] 42) := R1.out.alloc _; have B2 : Hid (Blk (w1.alloc (.cells #[.int .i64 0, .int .i64 0, .int .i64 0, .int .i64 0, .int .i64 0, .int .i64 0, .int .i64 0, .int .i64 0, .int .i64 0, .int .i64 0] 42)) w.heap.size #[.int .i64 i, .int .i64 f, .int .i64 t, .int .i64 c, .int .i64 p, .int .i64 d, .int .i64 u, .int .i64 x, .int .i64 b, .int .i64 y] 42) := B1.out.alloc _; clear k1)
    | (refine wp_storeF rfl (.tmp 6) (.tmp 22) rfl (w.heap.size + 1) _ _ rfl rfl R2.out rfl rfl (by simp [Value.oneCell']) ?_; intro w9 r9 k9 o9; have R9 := Lib.hid r9; have K9 := Lib.hid (k9 _ _ K2.out (by omega)); clear r9 k9 o9))
  exact bodyPost_ret (v := .tuple #[.agg #[.int .i64 0, .int .i64 0, .int .i64 0, .int .i64 0, .int .i64 0, .int .i64 0, .int .i64 0, .int .i64 0, .int .i64 0, .int .i64 0], .slice none 0 0, .int .i64 E]) (results_F3 Tryz.results124 _ _ _ _ _ _ rfl rfl rfl R9.out rfl) rfl ⟨rfl, K9.out⟩
set_option maxRecDepth 100000 in
set_option maxHeartbeats 2000000 in
theorem cpay_rng (i f t c p d u x b y y2 l E n P X : Int) (FP0 : FpIs #[.int .i64 i, .int .i64 f, .int .i64 t, .int .i64 c, .int .i64 p, .int .i64 d, .int .i64 u, .int .i64 x, .int .i64 b, .int .i64 y] #[.int .i64 i, .int .i64 f, .int .i64 t, .int .i64 c, .int .i64 p, .int .i64 d, .int .i64 u, .int .i64 x, .int .i64 b, .int .i64 y2] l 0) (W0 : WtIs l P X 0 3) (w : World) :
    Calls Tryz.prog 124 #[.agg #[.int .i64 i, .int .i64 f, .int .i64 t, .int .i64 c, .int .i64 p, .int .i64 d, .int .i64 u, .int .i64 x, .int .i64 b, .int .i64 y], .int .i64 P, .int .i64 X] w fun e w' => e = .returned (.tuple #[.agg #[.int .i64 0, .int .i64 0, .int .i64 0, .int .i64 0, .int .i64 0, .int .i64 0, .int .i64 0, .int .i64 0, .int .i64 0, .int .i64 0], .slice none 0 0, .int .i64 3]) ∧ Kpt w w' := by
  have FP := Lib.hid FP0
  have WT := Lib.hid W0
  clear FP0 W0
  have BF : Hid (Blk ((w.alloc (.cells #[.int .i64 i, .int .i64 f, .int .i64 t, .int .i64 c, .int .i64 p, .int .i64 d, .int .i64 u, .int .i64 x, .int .i64 b, .int .i64 y] 42)).alloc (.cells #[.int .i64 0, .int .i64 0, .int .i64 0, .int .i64 0, .int .i64 0, .int .i64 0, .int .i64 0, .int .i64 0, .int .i64 0, .int .i64 0] 42)) w.heap.size #[.int .i64 i, .int .i64 f, .int .i64 t, .int .i64 c, .int .i64 p, .int .i64 d, .int .i64 u, .int .i64 x, .int .i64 b, .int .i64 y] 42) := (Blk.made w #[.int .i64 i, .int .i64 f, .int .i64 t, .int .i64 c, .int .i64 p, .int .i64 d, .int .i64 u, .int .i64 x, .int .i64 b, .int .i64 y] 42).alloc _
  go_enter Tryz.func124, Tryz.ntmps124
  go_wp2_with (first
    | (refine wp_loadF rfl (.tmp 3) rfl w.heap.size _ rfl BF.out rfl ?_)
    | (go_at_call 78; (with_reducible refine (FP.out.run _).mono ?_); rintro e w1 ⟨rfl, k1⟩; have K1 := Lib.hid (ktr (((Kpt.refl w).alloc (.cells #[.int .i64 i, .int .i64 f, .int .i64 t, .int .i64 c, .int .i64 p, .int .i64 d, .int .i64 u, .int .i64 x, .int .i64 b, .int .i64 y] 42)).alloc (.cells #[.int .i64 0, .int .i64 0, .int .i64 0, .int .i64 0, .int .i64 0, .int .i64 0, .int .i64 0, .int .i64 0, .int .i64 0, .int .i64 0] 42)) k1); have B1 : Hid (Blk w1 w.heap.size #[.int .i64 i, .int .i64 f, .int .i64 t, .int .i64 c, .int .i64 p, .int .i64 d, .int .i64 u, .int .i64 x, .int .i64 b, .int .i64 y] 42) := Blk.kpt ((Blk.made w #[.int .i64 i, .int .i64 f, .int .i64 t, .int .i64 c, .int .i64 p, .int .i64 d, .int .i64 u, .int .i64 x, .int .i64 b, .int .i64 y] 42).alloc _) k1; have R1 : Hid (Blk w1 (w.heap.size + 1) #[.int .i64 0, .int .i64 0, .int .i64 0, .int .i64 0, .int .i64 0, .int .i64 0, .int .i64 0, .int .i64 0, .int .i64 0, .int .i64 0] 42) := Blk.kpt (by have := Blk.made (w.alloc (.cells #[.int .i64 i, .int .i64 f, .int .i64 t, .int .i64 c, .int .i64 p, .int .i64 d, .int .i64 u, .int .i64 x, .int .i64 b, .int .i64 y] 42)) #[.int .i64 0, .int .i64 0, .int .i64 0, .int .i64 0, .int .i64 0, .int .i64 0, .int .i64 0, .int .i64 0, .int .i64 0, .int .i64 0] 42; rwa [World.size_alloc] at this) k1; have D1 : Hid (Blk (w1.alloc (.cells #[.int .i64 i, .int .i64 f, .int .i64 t, .int .i64 c, .int .i64 p, .int .i64 d, .int .i64 u, .int .i64 x, .int .i64 b, .int .i64 y2] 42)) w1.heap.size #[.int .i64 i, .int .i64 f, .int .i64 t, .int .i64 c, .int .i64 p, .int .i64 d, .int .i64 u, .int .i64 x, .int .i64 b, .int .i64 y2] 42) := Blk.made _ _ _; have K2 := Lib.hid (K1.out.alloc (.cells #[.int .i64 i, .int .i64 f, .int .i64 t, .int .i64 c, .int .i64 p, .int .i64 d, .int .i64 u, .int .i64 x, .int .i64 b, .int .i64 y2] 42)); have R2 : Hid (Blk (w1.alloc (.cells #[.int .i64 i, .int .i64 f, .int .i64 t, .int .i64 c, .int .i64 p, .int .i64 d, .int .i64 u, .int .i64 x, .int .i64 b, .int .i64 y2] 42)) (w.heap.size + 1) #[.int .i64 0, .int .i64 0, .int .i64 0, .int .i64 0, .int .i64 0, .int .i64 0, .int .i64 0, .int .i64 0, .int .i64 0, .int .i64 0] 42) := R1.out.alloc _; have B2 : Hid (Blk (w1.alloc (.cells #[.int .i64 i, .int .i64 f, .int .i64 t, .int .i64 c, .int .i64 p, .int .i64 d, .int .i64 u, .int .i64 x, .int .i64 b, .int .i64 y2] 42)) w.heap.size #[.int .i64 i, .int .i64 f, .int .i64 t, .int .i64 c, .int .i64 p, .int .i64 d, .int .i64 u, .int .i64 x, .int .i64 b, .int .i64 y] 42) := B1.out.alloc _; clear k1)
    | (go_at_call 153; (with_reducible refine (WT.out.run _).mono ?_); rintro e w3 ⟨rfl, k3⟩; have K3 := Lib.hid (ktr K2.out k3); have R3 := Lib.hid (R2.out.kpt k3); have D3 := Lib.hid (D1.out.kpt k3); have B3 := Lib.hid (B2.out.kpt k3); clear k3)
    | (refine wp_storeF rfl (.tmp 6) (.tmp 33) rfl (w.heap.size + 1) _ _ rfl rfl R3.out rfl rfl (by simp [Value.oneCell']) ?_; intro w9 r9 k9 o9; have R9 := Lib.hid r9; have K9 := Lib.hid (k9 _ _ K3.out (by omega)); clear r9 k9 o9))
  exact bodyPost_ret (v := .tuple #[.agg #[.int .i64 0, .int .i64 0, .int .i64 0, .int .i64 0, .int .i64 0, .int .i64 0, .int .i64 0, .int .i64 0, .int .i64 0, .int .i64 0], .slice none 0 0, .int .i64 3]) (results_F3 Tryz.results124 _ _ _ _ _ _ rfl rfl rfl R9.out rfl) rfl ⟨rfl, K9.out⟩
set_option maxRecDepth 100000 in
set_option maxHeartbeats 2000000 in
theorem cpay_zero (i f t c p d u x b y y2 l E n P X : Int) (FP0 : FpIs #[.int .i64 i, .int .i64 f, .int .i64 t, .int .i64 c, .int .i64 p, .int .i64 d, .int .i64 u, .int .i64 x, .int .i64 b, .int .i64 y] #[.int .i64 i, .int .i64 f, .int .i64 t, .int .i64 c, .int .i64 p, .int .i64 d, .int .i64 u, .int .i64 x, .int .i64 b, .int .i64 y2] l 0) (W0 : WtIs l P X 0 0) (w : World) :
    Calls Tryz.prog 124 #[.agg #[.int .i64 i, .int .i64 f, .int .i64 t, .int .i64 c, .int .i64 p, .int .i64 d, .int .i64 u, .int .i64 x, .int .i64 b, .int .i64 y], .int .i64 P, .int .i64 X] w fun e w' => e = .returned (.tuple #[.agg #[.int .i64 i, .int .i64 f, .int .i64 t, .int .i64 c, .int .i64 p, .int .i64 d, .int .i64 u, .int .i64 x, .int .i64 b, .int .i64 y2], .slice none 0 0, .int .i64 0]) ∧ Kpt w w' := by
  have FP := Lib.hid FP0
  have WT := Lib.hid W0
  clear FP0 W0
  have BF : Hid (Blk ((w.alloc (.cells #[.int .i64 i, .int .i64 f, .int .i64 t, .int .i64 c, .int .i64 p, .int .i64 d, .int .i64 u, .int .i64 x, .int .i64 b, .int .i64 y] 42)).alloc (.cells #[.int .i64 0, .int .i64 0, .int .i64 0, .int .i64 0, .int .i64 0, .int .i64 0, .int .i64 0, .int .i64 0, .int .i64 0, .int .i64 0] 42)) w.heap.size #[.int .i64 i, .int .i64 f, .int .i64 t, .int .i64 c, .int .i64 p, .int .i64 d, .int .i64 u, .int .i64 x, .int .i64 b, .int .i64 y] 42) := (Blk.made w #[.int .i64 i, .int .i64 f, .int .i64 t, .int .i64 c, .int .i64 p, .int .i64 d, .int .i64 u, .int .i64 x, .int .i64 b, .int .i64 y] 42).alloc _
  go_enter Tryz.func124, Tryz.ntmps124
  go_upto_region 8 with (first
    | (refine wp_loadF rfl (.tmp 3) rfl w.heap.size _ rfl BF.out rfl ?_)
    | (go_at_call 78; (with_reducible refine (FP.out.run _).mono ?_); rintro e w1 ⟨rfl, k1⟩; have K1 := Lib.hid (ktr (((Kpt.refl w).alloc (.cells #[.int .i64 i, .int .i64 f, .int .i64 t, .int .i64 c, .int .i64 p, .int .i64 d, .int .i64 u, .int .i64 x, .int .i64 b, .int .i64 y] 42)).alloc (.cells #[.int .i64 0, .int .i64 0, .int .i64 0, .int .i64 0, .int .i64 0, .int .i64 0, .int .i64 0, .int .i64 0, .int .i64 0, .int .i64 0] 42)) k1); have B1 : Hid (Blk w1 w.heap.size #[.int .i64 i, .int .i64 f, .int .i64 t, .int .i64 c, .int .i64 p, .int .i64 d, .int .i64 u, .int .i64 x, .int .i64 b, .int .i64 y] 42) := Blk.kpt ((Blk.made w #[.int .i64 i, .int .i64 f, .int .i64 t, .int .i64 c, .int .i64 p, .int .i64 d, .int .i64 u, .int .i64 x, .int .i64 b, .int .i64 y] 42).alloc _) k1; have R1 : Hid (Blk w1 (w.heap.size + 1) #[.int .i64 0, .int .i64 0, .int .i64 0, .int .i64 0, .int .i64 0, .int .i64 0, .int .i64 0, .int .i64 0, .int .i64 0, .int .i64 0] 42) := Blk.kpt (by have := Blk.made (w.alloc (.cells #[.int .i64 i, .int .i64 f, .int .i64 t, .int .i64 c, .int .i64 p, .int .i64 d, .int .i64 u, .int .i64 x, .int .i64 b, .int .i64 y] 42)) #[.int .i64 0, .int .i64 0, .int .i64 0, .int .i64 0, .int .i64 0, .int .i64 0, .int .i64 0, .int .i64 0, .int .i64 0, .int .i64 0] 42; rwa [World.size_alloc] at this) k1; have D1 : Hid (Blk (w1.alloc (.cells #[.int .i64 i, .int .i64 f, .int .i64 t, .int .i64 c, .int .i64 p, .int .i64 d, .int .i64 u, .int .i64 x, .int .i64 b, .int .i64 y2] 42)) w1.heap.size #[.int .i64 i, .int .i64 f, .int .i64 t, .int .i64 c, .int .i64 p, .int .i64 d, .int .i64 u, .int .i64 x, .int .i64 b, .int .i64 y2] 42) := Blk.made _ _ _; have K2 := Lib.hid (K1.out.alloc (.cells #[.int .i64 i, .int .i64 f, .int .i64 t, .int .i64 c, .int .i64 p, .int .i64 d, .int .i64 u, .int .i64 x, .int .i64 b, .int .i64 y2] 42)); have R2 : Hid (Blk (w1.alloc (.cells #[.int .i64 i, .int .i64 f, .int .i64 t, .int .i64 c, .int .i64 p, .int .i64 d, .int .i64 u, .int .i64 x, .int .i64 b, .int .i64 y2] 42)) (w.heap.size + 1) #[.int .i64 0, .int .i64 0, .int .i64 0, .int .i64 0, .int .i64 0, .int .i64 0, .int .i64 0, .int .i64 0, .int .i64 0, .int .i64 0] 42) := R1.out.alloc _; have B2 : Hid (Blk (w1.alloc (.cells #[.int .i64 i, .int .i64 f, .int .i64 t, .int .i64 c, .int .i64 p, .int .i64 d, .int .i64 u, .int .i64 x, .int .i64 b, .int .i64 y2] 42)) w.heap.size #[.int .i64 i, .int .i64 f, .int .i64 t, .int .i64 c, .int .i64 p, .int .i64 d, .int .i64 u, .int .i64 x, .int .i64 b, .int .i64 y] 42) := B1.out.alloc _; clear k1)
    | (go_at_call 153; (with_reducible refine (WT.out.run _).mono ?_); rintro e w3 ⟨rfl, k3⟩; have K3 := Lib.hid (ktr K2.out k3); have R3 := Lib.hid (R2.out.kpt k3); have D3 := Lib.hid (D1.out.kpt k3); have B3 := Lib.hid (B2.out.kpt k3); clear k3))
  go_wp2_with (first
    | (refine wp_loadF rfl (.tmp 9) rfl w1.heap.size _ rfl D3.out rfl ?_)
    | (refine wp_storeF rfl (.tmp 6) (.tmp 37) rfl (w.heap.size + 1) _ _ rfl rfl R3.out rfl rfl (by simp [Value.oneCell']) ?_; intro w9 r9 k9 o9; have R9 := Lib.hid r9; have K9 := Lib.hid (k9 _ _ K3.out (by omega)); clear r9 k9 o9))
  exact bodyPost_ret (v := .tuple #[.agg #[.int .i64 i, .int .i64 f, .int .i64 t, .int .i64 c, .int .i64 p, .int .i64 d, .int .i64 u, .int .i64 x, .int .i64 b, .int .i64 y2], .slice none 0 0, .int .i64 0]) (results_F3 Tryz.results124 _ _ _ _ _ _ rfl rfl rfl R9.out rfl) rfl ⟨rfl, K9.out⟩
/-- how a call of Pay ends that has money to post -/
def PayEnd (w : World) (G : Array Value) (f t n : Int) (e : Ending) (w' : World) : Prop := ∃ g, e = .returned (.tuple #[.agg G, .slice (some ⟨g, 0, none⟩) 2 2, .int .i64 0]) ∧ Blk w' g #[.int .i64 f, .int .i64 0, .int .i64 (-n), .int .i64 t, .int .i64 0, .int .i64 n] 55 ∧ Kpt w w'

set_option maxRecDepth 100000 in
set_option maxHeartbeats 2000000 in
theorem cpay_ok (i f t c p d u x b y y2 l E n P X : Int) (h : n ≠ 0) (h0 : 0 ≤ n) (h1 : n ≤ 1152921504606846976) (FP0 : FpIs #[.int .i64 i, .int .i64 f, .int .i64 t, .int .i64 c, .int .i64 p, .int .i64 d, .int .i64 u, .int .i64 x, .int .i64 b, .int .i64 y] #[.int .i64 i, .int .i64 f, .int .i64 t, .int .i64 c, .int .i64 p, .int .i64 d, .int .i64 u, .int .i64 x, .int .i64 b, .int .i64 y2] l 0) (W0 : WtIs l P X n 0) (w : World) :
    Calls Tryz.prog 124 #[.agg #[.int .i64 i, .int .i64 f, .int .i64 t, .int .i64 c, .int .i64 p, .int .i64 d, .int .i64 u, .int .i64 x, .int .i64 b, .int .i64 y], .int .i64 P, .int .i64 X] w fun e w' => PayEnd w #[.int .i64 i, .int .i64 f, .int .i64 t, .int .i64 c, .int .i64 p, .int .i64 d, .int .i64 u, .int .i64 x, .int .i64 b, .int .i64 y2] f t n e w' := by
  have FP := Lib.hid FP0
  have WT := Lib.hid W0
  have q : (n == 0) = false := beq_eq_false_iff_ne.2 h
  have m1 : IntKind.i64.wrap (-n) = -n := IntWalk.i64_in _ (by omega)
  clear FP0 W0 h
  have BF : Hid (Blk ((w.alloc (.cells #[.int .i64 i, .int .i64 f, .int .i64 t, .int .i64 c, .int .i64 p, .int .i64 d, .int .i64 u, .int .i64 x, .int .i64 b, .int .i64 y] 42)).alloc (.cells #[.int .i64 0, .int .i64 0, .int .i64 0, .int .i64 0, .int .i64 0, .int .i64 0, .int .i64 0, .int .i64 0, .int .i64 0, .int .i64 0] 42)) w.heap.size #[.int .i64 i, .int .i64 f, .int .i64 t, .int .i64 c, .int .i64 p, .int .i64 d, .int .i64 u, .int .i64 x, .int .i64 b, .int .i64 y] 42) := (Blk.made w #[.int .i64 i, .int .i64 f, .int .i64 t, .int .i64 c, .int .i64 p, .int .i64 d, .int .i64 u, .int .i64 x, .int .i64 b, .int .i64 y] 42).alloc _
  go_enter Tryz.func124, Tryz.ntmps124
  go_upto_region 10 with (first
    | (refine wp_loadF rfl (.tmp 3) rfl w.heap.size _ rfl BF.out rfl ?_)
    | (go_at_call 78; (with_reducible refine (FP.out.run _).mono ?_); rintro e w1 ⟨rfl, k1⟩; have K1 := Lib.hid (ktr (((Kpt.refl w).alloc (.cells #[.int .i64 i, .int .i64 f, .int .i64 t, .int .i64 c, .int .i64 p, .int .i64 d, .int .i64 u, .int .i64 x, .int .i64 b, .int .i64 y] 42)).alloc (.cells #[.int .i64 0, .int .i64 0, .int .i64 0, .int .i64 0, .int .i64 0, .int .i64 0, .int .i64 0, .int .i64 0, .int .i64 0, .int .i64 0] 42)) k1); have B1 : Hid (Blk w1 w.heap.size #[.int .i64 i, .int .i64 f, .int .i64 t, .int .i64 c, .int .i64 p, .int .i64 d, .int .i64 u, .int .i64 x, .int .i64 b, .int .i64 y] 42) := Blk.kpt ((Blk.made w #[.int .i64 i, .int .i64 f, .int .i64 t, .int .i64 c, .int .i64 p, .int .i64 d, .int .i64 u, .int .i64 x, .int .i64 b, .int .i64 y] 42).alloc _) k1; have R1 : Hid (Blk w1 (w.heap.size + 1) #[.int .i64 0, .int .i64 0, .int .i64 0, .int .i64 0, .int .i64 0, .int .i64 0, .int .i64 0, .int .i64 0, .int .i64 0, .int .i64 0] 42) := Blk.kpt (by have := Blk.made (w.alloc (.cells #[.int .i64 i, .int .i64 f, .int .i64 t, .int .i64 c, .int .i64 p, .int .i64 d, .int .i64 u, .int .i64 x, .int .i64 b, .int .i64 y] 42)) #[.int .i64 0, .int .i64 0, .int .i64 0, .int .i64 0, .int .i64 0, .int .i64 0, .int .i64 0, .int .i64 0, .int .i64 0, .int .i64 0] 42; rwa [World.size_alloc] at this) k1; have D1 : Hid (Blk (w1.alloc (.cells #[.int .i64 i, .int .i64 f, .int .i64 t, .int .i64 c, .int .i64 p, .int .i64 d, .int .i64 u, .int .i64 x, .int .i64 b, .int .i64 y2] 42)) w1.heap.size #[.int .i64 i, .int .i64 f, .int .i64 t, .int .i64 c, .int .i64 p, .int .i64 d, .int .i64 u, .int .i64 x, .int .i64 b, .int .i64 y2] 42) := Blk.made _ _ _; have K2 := Lib.hid (K1.out.alloc (.cells #[.int .i64 i, .int .i64 f, .int .i64 t, .int .i64 c, .int .i64 p, .int .i64 d, .int .i64 u, .int .i64 x, .int .i64 b, .int .i64 y2] 42)); have R2 : Hid (Blk (w1.alloc (.cells #[.int .i64 i, .int .i64 f, .int .i64 t, .int .i64 c, .int .i64 p, .int .i64 d, .int .i64 u, .int .i64 x, .int .i64 b, .int .i64 y2] 42)) (w.heap.size + 1) #[.int .i64 0, .int .i64 0, .int .i64 0, .int .i64 0, .int .i64 0, .int .i64 0, .int .i64 0, .int .i64 0, .int .i64 0, .int .i64 0] 42) := R1.out.alloc _; have B2 : Hid (Blk (w1.alloc (.cells #[.int .i64 i, .int .i64 f, .int .i64 t, .int .i64 c, .int .i64 p, .int .i64 d, .int .i64 u, .int .i64 x, .int .i64 b, .int .i64 y2] 42)) w.heap.size #[.int .i64 i, .int .i64 f, .int .i64 t, .int .i64 c, .int .i64 p, .int .i64 d, .int .i64 u, .int .i64 x, .int .i64 b, .int .i64 y] 42) := B1.out.alloc _; clear k1)
    | (go_at_call 153; (with_reducible refine (WT.out.run _).mono ?_); rintro e w3 ⟨rfl, k3⟩; have K3 := Lib.hid (ktr K2.out k3); have R3 := Lib.hid (R2.out.kpt k3); have D3 := Lib.hid (D1.out.kpt k3); have B3 := Lib.hid (B2.out.kpt k3); have c1 : World.cell? w3 ⟨w.heap.size, 1, none⟩ = some (.int .i64 f) := B3.out.cell 1; have c2 : World.cell? w3 ⟨w.heap.size, 2, none⟩ = some (.int .i64 t) := B3.out.cell 2; clear k3))
  have PB4 : Hid (Blk (w3.alloc (.cells #[.int .i64 f, .int .i64 0, .int .i64 (-n), .int .i64 t, .int .i64 0, .int .i64 n] 55)) w3.heap.size #[.int .i64 f, .int .i64 0, .int .i64 (-n), .int .i64 t, .int .i64 0, .int .i64 n] 55) := Blk.made _ _ _
  have D4 := Lib.hid (D3.out.alloc (.cells #[.int .i64 f, .int .i64 0, .int .i64 (-n), .int .i64 t, .int .i64 0, .int .i64 n] 55))
  have R4 := Lib.hid (R3.out.alloc (.cells #[.int .i64 f, .int .i64 0, .int .i64 (-n), .int .i64 t, .int .i64 0, .int .i64 n] 55))
  have K4 := Lib.hid (K3.out.alloc (.cells #[.int .i64 f, .int .i64 0, .int .i64 (-n), .int .i64 t, .int .i64 0, .int .i64 n] 55))
  have N4 := R3.out.lt
  go_wp2_with (first
    | (refine wp_loadF rfl (.tmp 9) rfl w1.heap.size _ rfl D4.out rfl ?_)
    | (refine wp_storeF rfl (.tmp 6) (.tmp 48) rfl (w.heap.size + 1) _ _ rfl rfl R4.out rfl rfl (by simp [Value.oneCell']) ?_; intro w9 r9 k9 o9; have R9 := Lib.hid r9; have K9 := Lib.hid (k9 _ _ K4.out (by omega)); have PB9 := Lib.hid (PB4.out.block (o9 _ (by omega))); clear r9 k9 o9))
  exact bodyPost_ret (v := .tuple #[.agg #[.int .i64 i, .int .i64 f, .int .i64 t, .int .i64 c, .int .i64 p, .int .i64 d, .int .i64 u, .int .i64 x, .int .i64 b, .int .i64 y2], .slice (some ⟨w3.heap.size, 0, none⟩) 2 2, .int .i64 0]) (results_F3 Tryz.results124 _ _ _ _ _ _ rfl rfl rfl R9.out rfl) rfl ⟨_, rfl, PB9.out, K9.out⟩
end Go.Proofs.YthaahebggboliaaGreat
