/-
  Merged: CalD.
-/
import Derived.RangeFuncNested
import Derived.RangeFuncBound
import Derived.RangeFuncCalls
import Derived.RangeFuncLeaves
import Derived.RangeFuncFrom
import Derived.Shelf.Abstract
import Derived.Shelf.RegionOpen
import Derived.OwnWalkIn
import Derived.TacticsInMore
import Derived.LoopNIn
import Derived.LoopIn
import Derived.Test.YthaahebggboliaaGreatMc1
import Derived.Test.YthaahebggboliaaGreatKept
-- CalD
namespace Go.Proofs.YthaahebggboliaaGreat
open Go.RowKit Go.Shelf
set_option linter.unusedVariables false
attribute [local go_sem] Oper.semAt_some

/-- those of the first k days, in a direction, that are business days -/
def vis (β : Int → Bool) (start dir : Int) (k : Nat) : List Int := ((List.range k).map fun j : Nat => start + dir * (j : Int)).filter β
theorem vis_t {β : Int → Bool} {start dir : Int} {k : Nat} (h : β (start + dir * (k : Int)) = true) : vis β start dir (k + 1) = vis β start dir k ++ [start + dir * (k : Int)] := by
  unfold vis; rw [List.range_succ, List.map_append, List.filter_append]; simp [h]
theorem vis_f {β : Int → Bool} {start dir : Int} {k : Nat} (h : β (start + dir * (k : Int)) = false) : vis β start dir (k + 1) = vis β start dir k := by
  unfold vis; rw [List.range_succ, List.map_append, List.filter_append]; simp [h]
theorem vis_len (β : Int → Bool) (start dir : Int) (k : Nat) : (vis β start dir k).length ≤ k := by
  unfold vis; refine Nat.le_trans (List.length_filter_le _ _) ?_; simp
theorem vis_pre (β : Int → Bool) (start dir : Int) {k T : Nat} (h : k ≤ T) : vis β start dir k <+: vis β start dir T := by
  induction T with
  | zero => obtain rfl : k = 0 := by omega
            exact List.prefix_refl _
  | succ T ih =>
    by_cases e : k = T + 1
    · rw [e]; exact List.prefix_refl _
    · refine (ih (by omega)).trans ?_
      cases hb : β (start + dir * (T : Int)) with
      | true => rw [vis_t hb]; exact List.prefix_append _ _
      | false => rw [vis_f hb]; exact List.prefix_refl _

/-- T days lie in a direction -/
structure Far (start dir : Int) (T : Nat) : Prop where
  dirs : dir = 1 ∨ dir = -1
  inn : ∀ k : Nat, k < T → 0 ≤ start + dir * (k : Int) ∧ start + dir * (k : Int) ≤ 3652058
  out : start + dir * (T : Int) < 0 ∨ 3652058 < start + dir * (T : Int)
  low : -1 ≤ start + dir * (T : Int) ∧ start + dir * (T : Int) ≤ 3652059

/-- what the closure of business has captured -/
structure Held (w : World) (W : Int) (v : Value) (hs : List Int) (start dir : Int) (b4 b5 b3 : Nat) : Prop where
  c4 : w.cell? ⟨b4, 0, none⟩ = some (.int .i64 start)
  c5 : w.cell? ⟨b5, 0, none⟩ = some (.int .i64 dir)
  c30 : w.cell? ⟨b3, 0, none⟩ = some (.int .i64 W)
  c31 : w.cell? ⟨b3, 1, none⟩ = some v
  rd : Reads w v hs
theorem Held.kpt {w w' : World} {W : Int} {v : Value} {hs : List Int} {start dir : Int} {b4 b5 b3 : Nat} (h : Held w W v hs start dir b4 b5 b3) (g : Kpt w w') : Held w' W v hs start dir b4 b5 b3 :=
  ⟨g.cell h.c4, g.cell h.c5, g.cell h.c30, g.cell h.c31, h.rd.kpt g⟩

set_option maxRecDepth 100000 in
set_option maxHeartbeats 2000000 in
theorem bizIter_in (n : Nat) (hn : 1 ≤ n) (l : Nat) (w0 : World) (W : Int) (a : Option Addr) (cap : Nat) (hs : List Int) (start dir : Int) (T : Nat) (b4 b5 b3 : Nat) (hE : calE W hs = 0) (hF : Far start dir T) (hH : Held w0 W (.slice a hs.length cap) hs start dir b4 b5 b3)
    (J Jx : List Int → World → Prop) (W0 : World) (hJ : AbidesFrom W0.heap.size J) (g0 : Kpt w0 W0)
    (hY : ∀ pre x W1, J pre W1 → pre.length < T → YieldAt Fence.wide (n - 1) Tryz.prog l #[.int .i64 x] W1 fun e W' =>
      (e = .returned (.bool true) ∧ J (pre ++ [x]) W' ∧ Below w0.heap.size W1 W') ∨ (e = .returned (.bool false) ∧ Jx (pre ++ [x]) W'))
    (h0 : J [] W0) :
    CallsIn Fence.wide n Tryz.prog 154 #[.func (.yield l) #[] #[], .pointer (some ⟨b4, 0, none⟩), .pointer (some ⟨b5, 0, none⟩), .pointer (some ⟨b3, 0, none⟩)] W0 fun e W' => (∃ v, e = .returned v) ∧
      ((∃ ys, ys = vis (bizB W hs) start dir T ∧ J ys W') ∨ (∃ pre, pre <+: vis (bizB W hs) start dir T ∧ Jx pre W')) := by
  obtain ⟨h0', h1', hl, hp⟩ := cal_right hE
  obtain ⟨fd, fi, fo, fl⟩ := hF
  have c4 := g0.cell hH.c4
  have HH := Lib.hid hH
  have G0 := Lib.hid g0
  have HJ := Lib.hid hJ
  have HY := Lib.hid hY
  have FI := Lib.hid fi
  have FD := Lib.hid fd
  have FO := Lib.hid fo
  have hd : -1 ≤ dir ∧ dir ≤ 1 := by rcases fd with h | h <;> omega
  obtain ⟨hd0, hd1⟩ := hd
  have FL := Lib.hid fl
  clear hE hH g0 hJ hY fi fd fo fl
  refine callsIn_of_wp Tryz.func154 rfl trivial ?_ rfl
  simp only [Tryz.ntmps154, List.size_toArray, List.length_cons, List.length_nil, Nat.reduceAdd, Nat.reduceSub, Array.replicate_succ, Array.replicate_zero, List.push_toArray, List.append_toArray, List.nil_append, List.cons_append]
  gi_wp2
  clear c4
  gi_loopw [5] (fun i wr => ∃ (k : Nat) (x : Int), i = .int .i64 x ∧ Hid (x = start + dir * (k : Int)) ∧ k ≤ T ∧ -1 ≤ x ∧ x ≤ 3652059 ∧ Hid (J (vis (bizB W hs) start dir k) wr) ∧ Hid (Below w0.heap.size w0 wr)) (fun i _ => (dir * (start + dir * (T : Int) - intOf i)).toNat)
  case atStart =>
    refine ⟨0, start, rfl, by unfold Hid; simp, Nat.zero_le _, ?_, ?_, h0, G0.out⟩
    · by_cases hT : 0 < T
      · have := FI.out 0 hT; simp at this; omega
      · obtain rfl : T = 0 := by omega
        have := FL.out; simp at this; omega
    · by_cases hT : 0 < T
      · have := FI.out 0 hT; simp at this; omega
      · obtain rfl : T = 0 := by omega
        have := FL.out; simp at this; omega
  case round =>
    obtain ⟨k, x, rfl, HX, hk, x0, x1, HJs, HB⟩ := hrel
    have held := HH.out.kpt (w' := wr) HB.out
    have c5 := held.c5
    have c30 := held.c30
    have c31 := held.c31
    by_cases hlt : k < T
    · have inn := FI.out k hlt
      rw [← HX.out] at inn
      obtain ⟨n0, n1⟩ := inn
      have D := Lib.hid (fun w => calDay_t x n0 n1 w)
      have BZ := Lib.hid (isBusiness_any W x _ hs h0' h1' n0 n1 wr held.rd hl hp)
      clear held
      have hlen : (vis (bizB W hs) start dir k).length < T := Nat.lt_of_le_of_lt (vis_len _ _ _ _) hlt
      cases hb : bizB W hs x with
      | true =>
        rw [hb] at BZ
        have HV : Hid (vis (bizB W hs) start dir (k + 1) = vis (bizB W hs) start dir k ++ [x]) := by
          unfold Hid; rw [HX.out]; exact vis_t (by rw [← HX.out]; exact hb)
        clear hb
        gi_wp2_with (first
          | (refine ⟨trivial, ?_⟩; gi_at_call 101; refine (callsIn_wide.2 (D.out _)).mono ?_; rintro e w' ⟨rfl, rfl⟩)
          | (refine ⟨trivial, ?_⟩; gi_at_call 155; refine (callsIn_wide.2 BZ.out).mono ?_; rintro e w2 ⟨rfl, g2⟩; have G2 := Lib.hid g2; clear g2; obtain ⟨fn, tmps, assign, body, hy, hR⟩ := HY.out _ x w2 (HJ.out _ wr w2 none HJs.out G2.out.grownBy (fun r e => by cases e)) hlen; have HR := Lib.hid hR; clear hR))
        refine HR.out.mono ?_
        rintro e W3 (⟨rfl, hJ3, hk3⟩ | ⟨rfl, hJx3⟩)
        · have c53 : W3.cell? ⟨b5, 0, none⟩ = some (.int .i64 dir) := (Kpt.cell (w := w0) (w' := W3) (HB.out.trans ((G2.out.below.mono HB.out.size).trans hk3)) HH.out.c5)
          gi_wp2
          go_roundw
          case rel => exact ⟨k + 1, x + dir, rfl, by unfold Hid; have := HX.out; rw [this]; rcases FD.out with h | h <;> rw [h] <;> omega, by omega, by omega, by omega, by rw [HV.out]; exact hJ3, HB.out.trans ((G2.out.below.mono HB.out.size).trans hk3)⟩
          case measure => have := HX.out; simp [intOf]; rcases FD.out with h | h <;> subst h <;> omega
        · gi_wp2
          refine bodyPost_ret (results_none rfl _ _ _) rfl ?_
          exact ⟨⟨_, rfl⟩, .inr ⟨_, by rw [← HV.out]; exact vis_pre _ _ _ hlt, hJx3⟩⟩
      | false =>
        rw [hb] at BZ
        have HV : Hid (vis (bizB W hs) start dir (k + 1) = vis (bizB W hs) start dir k) := by
          unfold Hid; exact vis_f (by rw [← HX.out]; exact hb)
        clear hb
        gi_wp2_with (first
          | (refine ⟨trivial, ?_⟩; gi_at_call 101; refine (callsIn_wide.2 (D.out _)).mono ?_; rintro e w' ⟨rfl, rfl⟩)
          | (refine ⟨trivial, ?_⟩; gi_at_call 155; refine (callsIn_wide.2 BZ.out).mono ?_; rintro e w2 ⟨rfl, g2⟩; have G2 := Lib.hid g2; clear g2; have c53 : w2.cell? ⟨b5, 0, none⟩ = some (.int .i64 dir) := (Kpt.cell (w := w0) (w' := w2) (HB.out.trans (G2.out.below.mono HB.out.size)) HH.out.c5)))
        refine ⟨fun _ h => (by cases h), ?_⟩
        gi_wp2
        go_roundw
        case rel => exact ⟨k + 1, x + dir, rfl, by unfold Hid; have := HX.out; rw [this]; rcases FD.out with h | h <;> rw [h] <;> omega, by omega, by omega, by omega, by rw [HV.out]; exact HJ.out _ wr w2 none HJs.out G2.out.grownBy (fun r e => by cases e), HB.out.trans (G2.out.below.mono HB.out.size)⟩
        case measure => have := HX.out; simp [intOf]; rcases FD.out with h | h <;> subst h <;> omega
    · have hkT : k = T := by omega
      have D := Lib.hid (fun w => calDay_f x (by have := FO.out; rw [HX.out, hkT]; exact this) w)
      have HV := Lib.hid hkT
      clear hkT held
      gi_wp2_with (refine ⟨trivial, ?_⟩; gi_at_call 101; refine (callsIn_wide.2 (D.out _)).mono ?_; rintro e w' ⟨rfl, rfl⟩)
      go_end0
      exact ⟨⟨_, rfl⟩, .inl ⟨_, rfl, by rw [← HV.out]; exact HJs.out⟩⟩

/-- the iterator, in its library's words -/
theorem biz_stops (n : Nat) (hn : 1 ≤ n) (n₀ : Nat) (w w0 : World) (hw : w.heap.size = n₀) (W : Int) (a : Option Addr) (cap : Nat) (hs : List Int) (start dir : Int) (T : Nat) (b4 b5 b3 : Nat) (hE : calE W hs = 0) (hF : Far start dir T) (hH : Held w W (.slice a hs.length cap) hs start dir b4 b5 b3) (hk : Kpt w w0) :
    SeqStopsK Fence.wide n Tryz.prog 154 #[.pointer (some ⟨b4, 0, none⟩), .pointer (some ⟨b5, 0, none⟩), .pointer (some ⟨b3, 0, none⟩)] (fun x : Int => #[.int .i64 x]) (Below n₀) (fun ys => ys = vis (bizB W hs) start dir T) (fun pre => pre <+: vis (bizB W hs) start dir T) T w0 := by
  intro l J Jx W0 hW hJ hJx hY h0
  subst hw
  exact bizIter_in n hn l w W a cap hs start dir T b4 b5 b3 hE hF hH J Jx W0 hJ (ktr hk hW) hY h0

/-- the many-th of those that come -/
def nthR (l : List Int) (many : Nat) : Int := if many ≤ l.length then l.getD (many - 1) 0 else 0
def nthE (l : List Int) (many : Nat) : Int := if many ≤ l.length then 0 else 8
theorem nth_in {l : List Int} {pre : List Int} {x : Int} (h : pre ++ [x] <+: l) : nthR l (pre.length + 1) = x ∧ nthE l (pre.length + 1) = 0 := by
  obtain ⟨t, rfl⟩ := h
  have : pre.length + 1 ≤ (pre ++ [x] ++ t).length := by simp
  unfold nthR nthE
  rw [if_pos this, if_pos this]
  refine ⟨?_, rfl⟩
  rw [List.getD_eq_getElem?_getD, List.append_assoc, List.getElem?_append_right (by omega)]
  simp
theorem nth_out {l : List Int} {many : Nat} (h : l.length < many) : nthR l many = 0 ∧ nthE l many = 8 := by
  unfold nthR nthE
  rw [if_neg (by omega), if_neg (by omega)]
  exact ⟨rfl, rfl⟩

set_option maxRecDepth 100000 in
set_option maxHeartbeats 2000000 in
theorem nth_biz (W : Int) (a : Option Addr) (cap : Nat) (hs : List Int) (start dir : Int) (T : Nat) (b4 b5 b3 : Nat) (many : Nat) (m0 : 1 ≤ many) (m1 : many ≤ 1000) (hE : calE W hs = 0) (hF : Far start dir T) (w : World) (hH : Held w W (.slice a hs.length cap) hs start dir b4 b5 b3) :
    Calls Tryz.prog 126 #[.func (.func 154) #[] #[.pointer (some ⟨b4, 0, none⟩), .pointer (some ⟨b5, 0, none⟩), .pointer (some ⟨b3, 0, none⟩)], .int .i64 many] w fun e w' => e = .returned (.tuple #[.int .i64 (nthR (vis (bizB W hs) start dir T) many), .int .i64 (nthE (vis (bizB W hs) start dir T) many)]) ∧ Kpt w w' := by
  have k1 : Kpt w (w.alloc (.cells #[.int .i64 many] 3)) := (Kpt.refl _).alloc _
  refine (callsIn_wide (n := 3)).1 ?_
  have ST := Lib.hid (fun w0 => biz_stops 2 (by omega) w.heap.size w w0 rfl W a cap hs start dir T b4 b5 b3 hE hF hH)
  clear hE hF hH
  refine callsIn_of_wp_marks Tryz.func126 rfl trivial ?_ rfl
  simp only [Tryz.ntmps126, List.size_toArray, List.length_cons, List.length_nil, Nat.reduceAdd, Nat.reduceSub, Array.replicate_succ, Array.replicate_zero, List.push_toArray, List.append_toArray, List.nil_append, List.cons_append]
  gi_wp2
  obtain ⟨w3, hw3⟩ : ∃ w3, (((w.alloc (.cells #[.int .i64 many] 3)).alloc (.cells #[.int .i64 0] 3)).alloc (.cells #[.int .i64 0] 32)) = w3 := ⟨_, rfl⟩
  have cm : w3.cell? ⟨w.heap.size, 0, none⟩ = some (.int .i64 many) := by rw [← hw3]; simp [go_sem]
  have c4 : w3.cell? ⟨w.heap.size + 1, 0, none⟩ = some (.int .i64 0) := by rw [← hw3]; simp [go_sem]
  have c5 : w3.cell? ⟨w.heap.size + 1 + 1, 0, none⟩ = some (.int .i64 0) := by rw [← hw3]; simp [go_sem]
  have fm : w3.frozen? ⟨w.heap.size, 0, none⟩ = false := by rw [← hw3]; simp [go_sem]
  have f4 : w3.frozen? ⟨w.heap.size + 1, 0, none⟩ = false := by rw [← hw3]; simp [go_sem]
  have f5 : w3.frozen? ⟨w.heap.size + 1 + 1, 0, none⟩ = false := by rw [← hw3]; simp [go_sem]
  have sz : w3.heap.size = w.heap.size + 3 := by rw [← hw3]; simp
  have hB0 : Below w.heap.size w w3 := by rw [← hw3]; exact (((Kpt.refl w).alloc _).alloc _).alloc _
  rw [hw3]
  clear hw3 k1
  refine wpIn_rangeFunc_ownF rfl (by omega) (gf := 154) (lb := #[.pointer (some ⟨b4, 0, none⟩), .pointer (some ⟨b5, 0, none⟩), .pointer (some ⟨b3, 0, none⟩)]) rfl trivial (enters_of Tryz.func154 (by kernel_rfl) rfl)
    (ST.out w3 hB0) belowK_t (belowK_b (by omega)) (Below.refl _ _) (fun _ => rfl)
    (fun pre W => ((W.cell? ⟨w.heap.size, 0, none⟩ = some (.int .i64 ((many : Int) - (pre.length : Int))) ∧ W.frozen? ⟨w.heap.size, 0, none⟩ = false) ∧ pre.length < many ∧ (W.cell? ⟨w.heap.size + 1, 0, none⟩ = some (.int .i64 0) ∧ W.frozen? ⟨w.heap.size + 1, 0, none⟩ = false) ∧ (W.cell? ⟨w.heap.size + 1 + 1, 0, none⟩ = some (.int .i64 0) ∧ W.frozen? ⟨w.heap.size + 1 + 1, 0, none⟩ = false)) ∧ Below w.heap.size w W)
    (fun c pre W => (c = .ret ∧ (∃ (ini : List Int) (x : Int), pre = ini ++ [x] ∧ ini.length + 1 = many ∧ W.cell? ⟨w.heap.size + 1, 0, none⟩ = some (.int .i64 x)) ∧ W.cell? ⟨w.heap.size + 1 + 1, 0, none⟩ = some (.int .i64 0)) ∧ Below w.heap.size w W)
    (OwnFrom.and (Own.from (fun s A B row hs hg hr => ⟨⟨cell_kept hs.1.1 hg hr, (frozen_kept hs.1.1 hg hr).trans hs.1.2⟩, hs.2.1, ⟨cell_kept hs.2.2.1.1 hg hr, (frozen_kept hs.2.2.1.1 hg hr).trans hs.2.2.1.2⟩, ⟨cell_kept hs.2.2.2.1 hg hr, (frozen_kept hs.2.2.2.1 hg hr).trans hs.2.2.2.2⟩⟩) _) (ownFrom_below (Nat.le_refl _) (by omega)))
    (fun c => OwnFrom.and (Own.from (fun s A B row hs hg hr => by obtain ⟨hc, ⟨ini, x, e1, e2, e3⟩, e4⟩ := hs; exact ⟨hc, ⟨ini, x, e1, e2, cell_kept e3 hg hr⟩, cell_kept e4 hg hr⟩) _) (ownFrom_below (Nat.le_refl _) (by omega)))
    ⟨⟨⟨by simpa using cm, fm⟩, m0, ⟨c4, f4⟩, ⟨c5, f5⟩⟩, hB0⟩
    (fun x => { tmps := #[.func (.func 154) #[] #[.pointer (some ⟨b4, 0, none⟩), .pointer (some ⟨b5, 0, none⟩), .pointer (some ⟨b3, 0, none⟩)], .int .i64 many, undef, .pointer (some ⟨w.heap.size, 0, none⟩), .pointer (some ⟨w.heap.size + 1, 0, none⟩), .pointer (some ⟨w.heap.size + 1 + 1, 0, none⟩), .int .i64 x, .func (.func 154) #[] #[.pointer (some ⟨b4, 0, none⟩), .pointer (some ⟨b5, 0, none⟩), .pointer (some ⟨b3, 0, none⟩)], .int .i64 x, undef, undef, undef, undef, undef], defers := [] }) ?assign ?body ?done ?stop
  case assign =>
    intro l x W' K hK
    gi_wp2
    exact hK
  case body =>
    clear cm c4 c5 fm f4 f5 hB0
    rintro l pre x W' ⟨⟨⟨cm, fm⟩, hlt, ⟨c4, f4⟩, c5, f5⟩, hB⟩ _
    obtain ⟨r, hr⟩ : ∃ r : Int, (many : Int) - (pre.length : Int) = r := ⟨_, rfl⟩
    rw [hr] at cm
    have r1 : 1 ≤ r := by omega
    have r2 : r ≤ 1000 := by omega
    have HR := Lib.hid hr
    have HB := Lib.hid hB
    have SZ := Lib.hid sz
    clear hr hB sz ST
    by_cases hz : r = 1
    · subst hz
      have HL : Hid (pre.length + 1 = many) := by unfold Hid; have := HR.out; omega
      gi_wp2
      have e4 := set_far (p := ⟨w.heap.size, 0, none⟩) (v := .int .i64 0) (by simp) c4
      have e5 := set_far (p := ⟨w.heap.size + 1, 0, none⟩) (v := .int .i64 x) (by simp) (set_far (p := ⟨w.heap.size, 0, none⟩) (v := .int .i64 0) (by simp; omega) c5)
      exact ⟨((KeepsOthers.setCell _ _ _).trans (KeepsOthers.setCell _ _ _)).trans (KeepsOthers.setCell _ _ _), ⟨rfl, ⟨pre, x, rfl, HL.out, set_far (by simp) (set_at e4)⟩, set_at e5⟩, ((HB.out.setCell (p := ⟨w.heap.size, 0, none⟩) (Nat.le_refl _) _).setCell (p := ⟨w.heap.size + 1, 0, none⟩) (by simp) _).setCell (p := ⟨w.heap.size + 1 + 1, 0, none⟩) (by simp; omega) _⟩
    · have q : (r - 1 == 0) = false := beq_eq_false_iff_ne.2 (by omega)
      have HZ : Hid (r ≠ 1) := hz
      clear hz
      gi_wp2
      have ee : (many : Int) - ((pre ++ [x]).length : Int) = r - 1 := by have := HR.out; simp; omega
      have ll : (pre ++ [x]).length < many := by have := HR.out; have := HZ.out; simp; omega
      exact ⟨KeepsOthers.setCell _ _ _, (Below.refl w.heap.size W').setCell (p := ⟨w.heap.size, 0, none⟩) (Nat.le_refl _) _, ⟨⟨by rw [ee]; exact set_at cm, by rw [World.frozen?_setCell]; exact fm⟩, ll, ⟨set_far (by simp) c4, by rw [World.frozen?_setCell]; exact f4⟩, ⟨set_far (by simp; omega) c5, by rw [World.frozen?_setCell]; exact f5⟩⟩, HB.out.setCell (p := ⟨w.heap.size, 0, none⟩) (Nat.le_refl _) _⟩
  case done =>
    rintro D ys W' hD rfl ⟨⟨⟨cm, fm⟩, hlt, ⟨c4, f4⟩, c5, f5⟩, hB⟩ hK
    gi_wp2
    have hK' := ((KeepsOthers.setCell W' ⟨w.heap.size + 1, 0, none⟩ (.int .i64 0)).trans (KeepsOthers.setCell _ ⟨w.heap.size + 1 + 1, 0, none⟩ (.int .i64 8))).same D _ hK rfl
    have e4 := set_far (p := ⟨w.heap.size + 1 + 1, 0, none⟩) (v := .int .i64 8) (by simp) (set_at (v := .int .i64 0) c4)
    have e5 := set_at (v := .int .i64 8) (set_far (p := ⟨w.heap.size + 1, 0, none⟩) (v := .int .i64 0) (by simp) c5)
    refine ⟨by simp, .inl ⟨_, _, rfl, run_takeDeferred hK', ?_⟩⟩
    have hc4 := cell_kept e4 (grownBy_putObj' _ D (.deferred none)) (fun r e => by cases e; exact ⟨_, hK', rfl⟩)
    have hc5 := cell_kept e5 (grownBy_putObj' _ D (.deferred none)) (fun r e => by cases e; exact ⟨_, hK', rfl⟩)
    obtain ⟨n1, n2⟩ := nth_out hlt
    refine ⟨.tuple #[.int .i64 0, .int .i64 8], ?_, ?_, ((hB.setCell (p := ⟨w.heap.size + 1, 0, none⟩) (by simp) _).setCell (p := ⟨w.heap.size + 1 + 1, 0, none⟩) (by simp; omega) _).trans (belowK_b (w := w) (Nat.le_refl _) _ D _ _ (by omega) hK' rfl rfl)⟩
    · simp [results, Tryz.f126, go_sem, hc4, hc5]
    · rw [n1, n2]
  case stop =>
    rintro D c pre W' hD hpre ⟨⟨rfl, ⟨ini, x, rfl, e2, e3⟩, e4⟩, hB⟩ hK
    gi_wp2
    refine ⟨by simp, .inl ⟨_, _, rfl, run_takeDeferred hK, ?_⟩⟩
    have hc4 := cell_kept e3 (grownBy_putObj' _ D (.deferred none)) (fun r e => by cases e; exact ⟨_, hK, rfl⟩)
    have hc5 := cell_kept e4 (grownBy_putObj' _ D (.deferred none)) (fun r e => by cases e; exact ⟨_, hK, rfl⟩)
    obtain ⟨n1, n2⟩ := nth_in hpre
    rw [e2] at n1 n2
    refine ⟨.tuple #[.int .i64 x, .int .i64 0], ?_, ?_, hB.trans (belowK_b (w := w) (Nat.le_refl _) W' D _ _ (by omega) hK rfl rfl)⟩
    · simp [results, Tryz.f126, go_sem, hc4, hc5]
    · rw [n1, n2]

theorem business_any (W start dir : Int) (v : Value) (hs : List Int) (w : World) (hr : Reads w v hs) :
    Calls Tryz.prog 127 #[calV W v, .int .i64 start, .int .i64 dir] w fun e w' => e = .returned (.func (.func 154) #[] #[.pointer (some ⟨w.heap.size + 1, 0, none⟩), .pointer (some ⟨w.heap.size + 2, 0, none⟩), .pointer (some ⟨w.heap.size, 0, none⟩)]) ∧ Held w' W v hs start dir (w.heap.size + 1) (w.heap.size + 2) w.heap.size ∧ Grew w w' := by
  have rd : Reads (((w.alloc (.cells #[.int .i64 W, v] 24)).alloc (.cells #[.int .i64 start] 3)).alloc (.cells #[.int .i64 dir] 3)) v hs := hr.grew ((((Grew.refl _).alloc _ _).alloc _ _).alloc _ _)
  obtain ⟨a, cap, rfl, hm, hc⟩ := id hr
  have RD := Lib.hid rd
  clear hr hm hc rd
  go_enter Tryz.func127, Tryz.ntmps127
  go_wp2
  go_ret
  exact ⟨rfl, ⟨by simp [go_sem], by simp [go_sem], by simp [go_sem], by simp [go_sem], RD.out⟩, (((Grew.refl _).alloc _ _).alloc _ _).alloc _ _⟩

end Go.Proofs.YthaahebggboliaaGreat
