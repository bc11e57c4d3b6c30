/-
  Merged: LawPL.
-/
import Derived.Test.YtmoanndonfmihaaMgc
import Derived.Test.YtmoanndonfmihaaFailG
import Derived.BigQuiet
-- LawPL
namespace Go.Proofs.Ytmoanndonfmihaa
open Go.RowKit
set_option linter.unusedVariables false

theorem pl_take {E l n : Int} (h : takeE E l n = 0) : E = 0 ∧ 1 ≤ n ∧ n ≤ 1073741824 ∧ n ≤ l := by
  unfold takeE at h
  split at h
  · next h0 =>
    split at h
    · omega
    · split at h
      · omega
      · split at h
        · omega
        · exact ⟨h0, by omega, by omega, by omega⟩
  · next h0 => exact absurd h h0
theorem pl_deliv {i f t c p d u x b y n : Int} (ht : takeE (failE i f t c p d u x b y) (openV i f t c p d u x b y) n = 0) : (0 ≤ x ∧ x ≤ 1073741824 ∧ 1 ≤ n ∧ n ≤ 1073741824) ∧ failE i f t c p d u (x + n) b y = 0 ∧ openV i f t c p d u (x + n) b y = openV i f t c p d u x b y - n ∧ n ≤ openV i f t c p d u x b y := by
  obtain ⟨h, n1, n2, n3⟩ := pl_take ht
  obtain ⟨h1, h2, h3, h4⟩ := fail_0 h
  obtain ⟨-, -, -, -, -, hu⟩ := fdue_t h1
  obtain ⟨hx, hb, hy⟩ := ftk_t h3
  have ho : openV i f t c p d u x b y = u - x - b - y := by unfold openV; rw [if_pos h]
  have h5 : failE i f t c p d u (x + n) b y = 0 := fail_mk h1 h2 (ftk_mk ⟨by omega, hb, hy⟩) (by omega)
  have h6 : openV i f t c p d u (x + n) b y = u - (x + n) - b - y := by unfold openV; rw [if_pos h5]
  exact ⟨by omega, h5, by omega, n3⟩
def DelIs (i f t c p d u x b y n p0 p1 p2 p3 p4 p5 p6 p7 p8 p9 G : Int) : Prop := ∀ w, Calls Try.prog 13 #[.agg #[.int .i64 i, .int .i64 f, .int .i64 t, .int .i64 c, .int .i64 p, .int .i64 d, .int .i64 u, .int .i64 x, .int .i64 b, .int .i64 y], .int .i64 n] w fun e w' => e = .returned (.tuple #[.agg #[.int .i64 p0, .int .i64 p1, .int .i64 p2, .int .i64 p3, .int .i64 p4, .int .i64 p5, .int .i64 p6, .int .i64 p7, .int .i64 p8, .int .i64 p9], .int .i64 G]) ∧ Kpt w w'
theorem DelIs.run {i f t c p d u x b y n p0 p1 p2 p3 p4 p5 p6 p7 p8 p9 G : Int} (h : DelIs i f t c p d u x b y n p0 p1 p2 p3 p4 p5 p6 p7 p8 p9 G) (w : World) : Calls Try.prog 13 #[.agg #[.int .i64 i, .int .i64 f, .int .i64 t, .int .i64 c, .int .i64 p, .int .i64 d, .int .i64 u, .int .i64 x, .int .i64 b, .int .i64 y], .int .i64 n] w fun e w' => e = .returned (.tuple #[.agg #[.int .i64 p0, .int .i64 p1, .int .i64 p2, .int .i64 p3, .int .i64 p4, .int .i64 p5, .int .i64 p6, .int .i64 p7, .int .i64 p8, .int .i64 p9], .int .i64 G]) ∧ Kpt w w' := h w
/-- what Day answers of one fail -/
def Day1 (W q : Int) (v tv pv : Value) (l : List Int) (w : World) (E : Int) (ds : List (Int × Int × Int)) : Prop := ∀ w' lv, Kpt w w' → ReadsF w' lv [l] → Calls Try.prog 8 #[.agg #[.int .i64 W, v], tv, lv, pv, .int .i64 q] w' (DayRes w' E ds)
theorem Day1.run {W q : Int} {v tv pv : Value} {l : List Int} {w : World} {E : Int} {ds : List (Int × Int × Int)} (h : Day1 W q v tv pv l w E ds) (w' : World) (lv : Value) (k : Kpt w w') (r : ReadsF w' lv [l]) : Calls Try.prog 8 #[.agg #[.int .i64 W, v], tv, lv, pv, .int .i64 q] w' (DayRes w' E ds) := h w' lv k r
theorem DayRes.opn {w w' : World} {E : Int} {ds : List (Int × Int × Int)} {e : Ending} (h : DayRes w E ds e w') : ∃ dv, e = .returned (.tuple #[dv, .int .i64 E]) ∧ Hid (OwnsT 41 w' w.heap.size dv ds) ∧ Hid (Kpt w w') := h
theorem rf_made {w : World} {H : Nat} {i f t c p d u x b y : Int} (hH : w.heap.size = H) (hb : FlB [i, f, t, c, p, d, u, x, b, y]) : ReadsF (w.alloc (.cells #[.int .i64 i, .int .i64 f, .int .i64 t, .int .i64 c, .int .i64 p, .int .i64 d, .int .i64 u, .int .i64 x, .int .i64 b, .int .i64 y] 39)) (.slice (some ⟨H, 0, none⟩) 1 1) [[i, f, t, c, p, d, u, x, b, y]] := by
  subst hH
  have B := Blk.made w #[.int .i64 i, .int .i64 f, .int .i64 t, .int .i64 c, .int .i64 p, .int .i64 d, .int .i64 u, .int .i64 x, .int .i64 b, .int .i64 y] 39
  refine ⟨_, 1, rfl, by unfold maxLen; simp, fun l hl => by rw [List.mem_singleton.1 hl]; exact hb, fun k hk => ⟨w.heap.size, 0, rfl, fun j hj => ?_⟩⟩
  obtain rfl : k = 0 := by simp at hk; exact hk
  rw [Nat.zero_mul, Nat.zero_add, B.cell]
  rcases (show j = 0 ∨ j = 1 ∨ j = 2 ∨ j = 3 ∨ j = 4 ∨ j = 5 ∨ j = 6 ∨ j = 7 ∨ j = 8 ∨ j = 9 by omega) with rfl | rfl | rfl | rfl | rfl | rfl | rfl | rfl | rfl | rfl <;> rfl
theorem pl_second (w : World) (cs ds : Array Value) (T T' : TypeId) : Blk ((w.alloc (.cells cs T)).alloc (.cells ds T')) (w.heap.size + 1) ds T' := by
  have := Blk.made (w.alloc (.cells cs T)) ds T'
  rwa [World.size_alloc] at this
/-- the dues of one fail -/
theorem day_one {W : Int} {hs : List Int} {ts : List (List Int)} {ps : List Int} {q : Int} {l : List Int} (h : dayE W hs ts [l] ps q = 0) : dayD W hs ts [l] ps q = (if 0 < csL W hs (tlOf ts l) l (prOf ps l) q then [(l.getD 1 0, l.getD 2 0, csL W hs (tlOf ts l) l (prOf ps l) q)] else []) ∧ lkL W hs (tlOf ts l) l q = 0 ∧ preE W hs ts [l] ps q = 0 := by
  obtain ⟨h1, h2⟩ := orE_0 h
  refine ⟨?_, ?_, h1⟩
  · unfold dayD
    rw [if_pos h, dueL]; rfl
  · have : pdE W hs ts q [l] = orE (lkL W hs (tlOf ts l) l q) 0 := rfl
    rw [this] at h2
    exact (orE_0 h2).1
theorem pl_math {W : Int} {hs : List Int} {ts : List (List Int)} {ps : List Int} {q : Int} {i f t c p d u x b y n : Int} (h : dayE W hs ts [[i, f, t, c, p, d, u, x, b, y]] ps q = 0) (ht : takeE (failE i f t c p d u x b y) (openV i f t c p d u x b y) n = 0) :
    dayE W hs ts [[i, f, t, c, p, d, u, x + n, b, y]] ps q = 0 ∧
    (dayD W hs ts [[i, f, t, c, p, d, u, x + n, b, y]] ps q = [] ∨
     ∃ C C', 0 < C' ∧ C' ≤ C ∧ C ≤ 118059162071741130 ∧ openV i f t c p d u (x + n) b y ≠ 0 ∧ (0 ≤ f ∧ f ≤ 30) ∧ (0 ≤ t ∧ t ≤ 30) ∧ dayD W hs ts [[i, f, t, c, p, d, u, x + n, b, y]] ps q = [(f, t, C')] ∧ dayD W hs ts [[i, f, t, c, p, d, u, x, b, y]] ps q = [(f, t, C)]) := by
  obtain ⟨e1, e2, e3⟩ := day_one h
  obtain ⟨m1, m2, m3, m4⟩ := pl_deliv ht
  have g1 : failE i f t c p d u x b y = 0 := (pl_take ht).1
  have fb := fail_bd g1
  have lk : lkE W hs ((tlOf ts [i, f, t, c, p, d, u, x, b, y]).getD 0 0) ((tlOf ts [i, f, t, c, p, d, u, x, b, y]).getD 1 0) ((tlOf ts [i, f, t, c, p, d, u, x, b, y]).getD 2 0) ((tlOf ts [i, f, t, c, p, d, u, x, b, y]).getD 3 0) i f t c p d u x b y q = 0 := e2
  obtain ⟨k1, k2, k3, k4⟩ := lk_0 lk
  have lk2 : lkL W hs (tlOf ts [i, f, t, c, p, d, u, x + n, b, y]) [i, f, t, c, p, d, u, x + n, b, y] q = 0 := by
    show lkE W hs ((tlOf ts [i, f, t, c, p, d, u, x, b, y]).getD 0 0) ((tlOf ts [i, f, t, c, p, d, u, x, b, y]).getD 1 0) ((tlOf ts [i, f, t, c, p, d, u, x, b, y]).getD 2 0) ((tlOf ts [i, f, t, c, p, d, u, x, b, y]).getD 3 0) i f t c p d u (x + n) b y q = 0
    unfold lkE
    rw [if_pos k1, if_pos m2, if_pos k3]; exact k4
  obtain ⟨q1, q2⟩ := orE_0 e3
  obtain ⟨q3, q4⟩ := orE_0 q2
  obtain ⟨q5, q6⟩ := orE_0 q4
  have E2 : dayE W hs ts [[i, f, t, c, p, d, u, x + n, b, y]] ps q = 0 :=
    orE_mk (orE_mk q1 (orE_mk q3 (orE_mk (checks_one (show failEL [i, f, t, c, p, d, u, x + n, b, y] = 0 from m2)) q6))) (orE_mk lk2 rfl)
  refine ⟨E2, ?_⟩
  obtain ⟨r1, r2, r3⟩ := day_one E2
  by_cases hC : 0 < csL W hs (tlOf ts [i, f, t, c, p, d, u, x + n, b, y]) [i, f, t, c, p, d, u, x + n, b, y] (prOf ps [i, f, t, c, p, d, u, x + n, b, y]) q
  · right
    rw [if_pos hC] at r1
    have tl : tlOf ts [i, f, t, c, p, d, u, x + n, b, y] = tlOf ts [i, f, t, c, p, d, u, x, b, y] := rfl
    have pr : prOf ps [i, f, t, c, p, d, u, x + n, b, y] = prOf ps [i, f, t, c, p, d, u, x, b, y] := rfl
    have s1 : ¬ (stL W hs (tlOf ts [i, f, t, c, p, d, u, x + n, b, y]) [i, f, t, c, p, d, u, x + n, b, y] q = 0 ∨ stL W hs (tlOf ts [i, f, t, c, p, d, u, x + n, b, y]) [i, f, t, c, p, d, u, x + n, b, y] q = 5) := fun e => by
      unfold csL at hC
      rw [if_pos e] at hC
      omega
    have v2 : csL W hs (tlOf ts [i, f, t, c, p, d, u, x + n, b, y]) [i, f, t, c, p, d, u, x + n, b, y] (prOf ps [i, f, t, c, p, d, u, x + n, b, y]) q = dlyQ (openV i f t c p d u (x + n) b y) (prOf ps [i, f, t, c, p, d, u, x, b, y]) ((tlOf ts [i, f, t, c, p, d, u, x, b, y]).getD 3 0) := if_neg s1
    have hop : openV i f t c p d u (x + n) b y ≠ 0 := fun e => by
      rw [v2, e] at hC
      unfold dlyQ dlyV at hC
      split at hC
      · rw [Int.zero_mul] at hC; simp at hC
      · omega
    have st : stL W hs (tlOf ts [i, f, t, c, p, d, u, x, b, y]) [i, f, t, c, p, d, u, x, b, y] q = stL W hs (tlOf ts [i, f, t, c, p, d, u, x + n, b, y]) [i, f, t, c, p, d, u, x + n, b, y] q := by
      show stgR W hs ((tlOf ts [i, f, t, c, p, d, u, x, b, y]).getD 0 0) ((tlOf ts [i, f, t, c, p, d, u, x, b, y]).getD 1 0) ((tlOf ts [i, f, t, c, p, d, u, x, b, y]).getD 2 0) ((tlOf ts [i, f, t, c, p, d, u, x, b, y]).getD 3 0) i f t c p d u x b y q = stgR W hs ((tlOf ts [i, f, t, c, p, d, u, x, b, y]).getD 0 0) ((tlOf ts [i, f, t, c, p, d, u, x, b, y]).getD 1 0) ((tlOf ts [i, f, t, c, p, d, u, x, b, y]).getD 2 0) ((tlOf ts [i, f, t, c, p, d, u, x, b, y]).getD 3 0) i f t c p d u (x + n) b y q
      unfold stgR
      rw [if_pos lk, if_pos (show lkE W hs ((tlOf ts [i, f, t, c, p, d, u, x, b, y]).getD 0 0) ((tlOf ts [i, f, t, c, p, d, u, x, b, y]).getD 1 0) ((tlOf ts [i, f, t, c, p, d, u, x, b, y]).getD 2 0) ((tlOf ts [i, f, t, c, p, d, u, x, b, y]).getD 3 0) i f t c p d u (x + n) b y q = 0 from lk2)]
      unfold stgV
      rw [if_neg (show ¬ openV i f t c p d u x b y = 0 by omega), if_neg hop]
    have v1 : csL W hs (tlOf ts [i, f, t, c, p, d, u, x, b, y]) [i, f, t, c, p, d, u, x, b, y] (prOf ps [i, f, t, c, p, d, u, x, b, y]) q = dlyQ (openV i f t c p d u x b y) (prOf ps [i, f, t, c, p, d, u, x, b, y]) ((tlOf ts [i, f, t, c, p, d, u, x, b, y]).getD 3 0) := if_neg (by rw [st]; exact s1)
    have ob := op_bd (l := [i, f, t, c, p, d, u, x, b, y]) g1
    have ob1 : 0 ≤ openV i f t c p d u x b y ∧ openV i f t c p d u x b y ≤ 1073741824 := ob
    have pl := prsE_0 (orE_0 q6).1
    have pb : prcB (prOf ps [i, f, t, c, p, d, u, x, b, y]) = true := by
      unfold prOf
      have : (([i, f, t, c, p, d, u, x, b, y] : List Int).getD 4 0 - 1).toNat < ps.length := by rw [pl.1]; show (p - 1).toNat < 20; omega
      rw [List.getD_eq_getElem?_getD, List.getElem?_eq_getElem this]
      exact pl.2 _ (List.getElem_mem this)
    have pb2 := prc_t pb
    have am := csL_amt (W := W) (hs := hs) (tl := tlOf ts [i, f, t, c, p, d, u, x, b, y]) (l := [i, f, t, c, p, d, u, x, b, y]) (p := prOf ps [i, f, t, c, p, d, u, x, b, y]) (q := q) g1 pb
    have le : dlyQ (openV i f t c p d u (x + n) b y) (prOf ps [i, f, t, c, p, d, u, x, b, y]) ((tlOf ts [i, f, t, c, p, d, u, x, b, y]).getD 3 0) ≤ dlyQ (openV i f t c p d u x b y) (prOf ps [i, f, t, c, p, d, u, x, b, y]) ((tlOf ts [i, f, t, c, p, d, u, x, b, y]).getD 3 0) := by
      generalize (tlOf ts [i, f, t, c, p, d, u, x, b, y]).getD 3 0 = r at *
      generalize prOf ps [i, f, t, c, p, d, u, x, b, y] = z at *
      generalize openV i f t c p d u x b y = o at *
      rw [m3]
      unfold dlyQ
      by_cases hr : 0 ≤ r ∧ r ≤ 1000000
      · rw [if_pos (dly_mk (by omega) hr pb2), if_pos (dly_mk ob1 hr pb2)]
        unfold dlyV
        have a1 : (o - n) * z ≤ o * z := Int.mul_le_mul_of_nonneg_right (by omega) pb2.1
        have a2 : (o - n) * z / 10000 * r ≤ o * z / 10000 * r := Int.mul_le_mul_of_nonneg_right (by omega) hr.1
        omega
      · have n1 : ∀ o z : Int, ¬ dlyB o z r = true := fun o z e => hr (dly_t e).2.1
        rw [if_neg (n1 _ _), if_neg (n1 _ _)]
        omega
    rw [v2] at hC r1
    rw [v1] at am e1
    refine ⟨_, _, hC, le, am, hop, fb.2.2.2.2.1, fb.2.2.2.2.2, r1, ?_⟩
    rw [e1, if_pos (by omega)]; rfl
  · left
    rw [r1, if_neg hC]

set_option maxRecDepth 100000 in
set_option maxHeartbeats 4000000 in
theorem pless_a (W q n : Int) (v tv pv : Value) (i f t c p d u x b y p0 p1 p2 p3 p4 p5 p6 p7 p8 p9 : Int) (w : World) (E G : Int) (hE : E ≠ 0) (hb : FlB [i, f, t, c, p, d, u, x, b, y]) (D : Day1 W q v tv pv [i, f, t, c, p, d, u, x, b, y] w E []) (L : DelIs i f t c p d u x b y n p0 p1 p2 p3 p4 p5 p6 p7 p8 p9 G) :
    Calls Try.prog 5 #[calV W v, tv, .agg #[.int .i64 i, .int .i64 f, .int .i64 t, .int .i64 c, .int .i64 p, .int .i64 d, .int .i64 u, .int .i64 x, .int .i64 b, .int .i64 y], pv, .int .i64 q, .int .i64 n] w fun e w' => e = .returned (.bool true) ∧ Kpt w w' := by
  have HB := Lib.hid hb
  have HD := Lib.hid D
  have HL := Lib.hid L
  have z : (E != 0) = true := bne_iff_ne.2 hE
  have z2 : (E == 0) = false := beq_eq_false_iff_ne.2 hE
  clear hE D L hb
  have BFA : Hid (Blk (((w.alloc (.cells #[.int .i64 W, v] 24)).alloc (.cells #[.int .i64 i, .int .i64 f, .int .i64 t, .int .i64 c, .int .i64 p, .int .i64 d, .int .i64 u, .int .i64 x, .int .i64 b, .int .i64 y] 39)).alloc (.cells #[.int .i64 i, .int .i64 f, .int .i64 t, .int .i64 c, .int .i64 p, .int .i64 d, .int .i64 u, .int .i64 x, .int .i64 b, .int .i64 y] 39)) (w.heap.size + 1) #[.int .i64 i, .int .i64 f, .int .i64 t, .int .i64 c, .int .i64 p, .int .i64 d, .int .i64 u, .int .i64 x, .int .i64 b, .int .i64 y] 39) := (pl_second _ _ _ _ _).alloc _
  have BF0 : Hid (Blk ((w.alloc (.cells #[.int .i64 W, v] 24)).alloc (.cells #[.int .i64 i, .int .i64 f, .int .i64 t, .int .i64 c, .int .i64 p, .int .i64 d, .int .i64 u, .int .i64 x, .int .i64 b, .int .i64 y] 39)) (w.heap.size + 1) #[.int .i64 i, .int .i64 f, .int .i64 t, .int .i64 c, .int .i64 p, .int .i64 d, .int .i64 u, .int .i64 x, .int .i64 b, .int .i64 y] 39) := pl_second _ _ _ _ _
  have BCA : Hid (Blk (((w.alloc (.cells #[.int .i64 W, v] 24)).alloc (.cells #[.int .i64 i, .int .i64 f, .int .i64 t, .int .i64 c, .int .i64 p, .int .i64 d, .int .i64 u, .int .i64 x, .int .i64 b, .int .i64 y] 39)).alloc (.cells #[.int .i64 i, .int .i64 f, .int .i64 t, .int .i64 c, .int .i64 p, .int .i64 d, .int .i64 u, .int .i64 x, .int .i64 b, .int .i64 y] 39)) w.heap.size #[.int .i64 W, v] 24) := ((Blk.made _ _ _).alloc _).alloc _
  have KF0 : Hid (Kpt w (((w.alloc (.cells #[.int .i64 W, v] 24)).alloc (.cells #[.int .i64 i, .int .i64 f, .int .i64 t, .int .i64 c, .int .i64 p, .int .i64 d, .int .i64 u, .int .i64 x, .int .i64 b, .int .i64 y] 39)).alloc (.cells #[.int .i64 i, .int .i64 f, .int .i64 t, .int .i64 c, .int .i64 p, .int .i64 d, .int .i64 u, .int .i64 x, .int .i64 b, .int .i64 y] 39))) := (((Kpt.refl w).alloc _).alloc _).alloc _
  unfold calV
  go_enter Try.func5, Try.ntmps5
  go_wp2_with (first
    | (refine wp_loadF rfl (.tmp 8) rfl (w.heap.size + 1) _ rfl BF0.out rfl ?_)
    | (go_at_call 8; (with_reducible refine (HD.out.run _ _ KF0.out (rf_made (by simp) HB.out)).mono ?_); intro e w1 r; obtain ⟨dv, rfl, ho, hk⟩ := r.opn; obtain ⟨da, dc, rfl⟩ := OwnsT.form ho.out; have K1 := Lib.hid (ktr KF0.out hk.out); have BF1 := Lib.hid (BFA.out.kpt hk.out); have BC1 := Lib.hid (BCA.out.kpt hk.out); clear r hk ho)
    | (refine wp_loadF rfl (.tmp 8) rfl (w.heap.size + 1) _ rfl BF1.out rfl ?_)
    | (go_at_call 13; (with_reducible refine (HL.out.run _).mono ?_); rintro e w2 ⟨rfl, k1⟩; have K2 := Lib.hid (ktr K1.out k1); have BC2 := Lib.hid (BC1.out.kpt k1); have ZB := Lib.hid (Blk.made w2 #[.int .i64 0, .int .i64 0, .int .i64 0, .int .i64 0, .int .i64 0, .int .i64 0, .int .i64 0, .int .i64 0, .int .i64 0, .int .i64 0] 39); have KZ : Hid (Kpt w (w2.alloc (.cells #[.int .i64 0, .int .i64 0, .int .i64 0, .int .i64 0, .int .i64 0, .int .i64 0, .int .i64 0, .int .i64 0, .int .i64 0, .int .i64 0] 39))) := K2.out.alloc _; clear k1)
    | (refine wp_storeF rfl (.tmp 15) (.tmp 35) rfl w2.heap.size _ _ rfl rfl ZB.out rfl rfl (by simp [Value.oneCell']) ?_; intro w3 r9 k9 o9; have R3 := Lib.hid r9; have K23 : Hid (Kpt w2 w3) := Lib.hid (k9 _ _ ((Kpt.refl w2).alloc _) (Nat.le_refl _)); have K3 := Lib.hid (ktr K2.out K23.out); have BC3 := Lib.hid (BC2.out.kpt K23.out); clear r9 k9 o9)
    | (go_at_call 9; (with_reducible refine (penaltyBegun _).mono ?_); rintro e w4 ⟨rfl, k1⟩; have K34 := Lib.hid k1; have K4 := Lib.hid (ktr K3.out k1); clear k1)
    | (go_at_call 14; (with_reducible refine (failBegun _).mono ?_); rintro e w5 ⟨rfl, k1⟩; have K35 := Lib.hid (ktr K34.out k1); have K5 := Lib.hid (ktr K4.out k1); have BC5 := Lib.hid (BC3.out.kpt K35.out); have R5 := Lib.hid (R3.out.kpt K35.out); have c0 : w5.cell? ⟨w.heap.size, 0, none⟩ = some (.int .i64 W) := BC5.out.cell 0; have c1 : w5.cell? ⟨w.heap.size, 1, none⟩ = some v := BC5.out.cell 1; clear k1))
  go_ret
  exact ⟨rfl, K5.out⟩

set_option maxRecDepth 100000 in
set_option maxHeartbeats 4000000 in
theorem pless_b (W q n : Int) (v tv pv : Value) (i f t c p d u x b y p0 p1 p2 p3 p4 p5 p6 p7 p8 p9 : Int) (w : World) (G : Int) (ds : List (Int × Int × Int)) (hG : G ≠ 0) (hb : FlB [i, f, t, c, p, d, u, x, b, y]) (D : Day1 W q v tv pv [i, f, t, c, p, d, u, x, b, y] w 0 ds) (L : DelIs i f t c p d u x b y n p0 p1 p2 p3 p4 p5 p6 p7 p8 p9 G) :
    Calls Try.prog 5 #[calV W v, tv, .agg #[.int .i64 i, .int .i64 f, .int .i64 t, .int .i64 c, .int .i64 p, .int .i64 d, .int .i64 u, .int .i64 x, .int .i64 b, .int .i64 y], pv, .int .i64 q, .int .i64 n] w fun e w' => e = .returned (.bool true) ∧ Kpt w w' := by
  have HB := Lib.hid hb
  have HD := Lib.hid D
  have HL := Lib.hid L
  have z : (G != 0) = true := bne_iff_ne.2 hG
  clear hG D L hb
  have BFA : Hid (Blk (((w.alloc (.cells #[.int .i64 W, v] 24)).alloc (.cells #[.int .i64 i, .int .i64 f, .int .i64 t, .int .i64 c, .int .i64 p, .int .i64 d, .int .i64 u, .int .i64 x, .int .i64 b, .int .i64 y] 39)).alloc (.cells #[.int .i64 i, .int .i64 f, .int .i64 t, .int .i64 c, .int .i64 p, .int .i64 d, .int .i64 u, .int .i64 x, .int .i64 b, .int .i64 y] 39)) (w.heap.size + 1) #[.int .i64 i, .int .i64 f, .int .i64 t, .int .i64 c, .int .i64 p, .int .i64 d, .int .i64 u, .int .i64 x, .int .i64 b, .int .i64 y] 39) := (pl_second _ _ _ _ _).alloc _
  have BF0 : Hid (Blk ((w.alloc (.cells #[.int .i64 W, v] 24)).alloc (.cells #[.int .i64 i, .int .i64 f, .int .i64 t, .int .i64 c, .int .i64 p, .int .i64 d, .int .i64 u, .int .i64 x, .int .i64 b, .int .i64 y] 39)) (w.heap.size + 1) #[.int .i64 i, .int .i64 f, .int .i64 t, .int .i64 c, .int .i64 p, .int .i64 d, .int .i64 u, .int .i64 x, .int .i64 b, .int .i64 y] 39) := pl_second _ _ _ _ _
  have BCA : Hid (Blk (((w.alloc (.cells #[.int .i64 W, v] 24)).alloc (.cells #[.int .i64 i, .int .i64 f, .int .i64 t, .int .i64 c, .int .i64 p, .int .i64 d, .int .i64 u, .int .i64 x, .int .i64 b, .int .i64 y] 39)).alloc (.cells #[.int .i64 i, .int .i64 f, .int .i64 t, .int .i64 c, .int .i64 p, .int .i64 d, .int .i64 u, .int .i64 x, .int .i64 b, .int .i64 y] 39)) w.heap.size #[.int .i64 W, v] 24) := ((Blk.made _ _ _).alloc _).alloc _
  have KF0 : Hid (Kpt w (((w.alloc (.cells #[.int .i64 W, v] 24)).alloc (.cells #[.int .i64 i, .int .i64 f, .int .i64 t, .int .i64 c, .int .i64 p, .int .i64 d, .int .i64 u, .int .i64 x, .int .i64 b, .int .i64 y] 39)).alloc (.cells #[.int .i64 i, .int .i64 f, .int .i64 t, .int .i64 c, .int .i64 p, .int .i64 d, .int .i64 u, .int .i64 x, .int .i64 b, .int .i64 y] 39))) := (((Kpt.refl w).alloc _).alloc _).alloc _
  unfold calV
  go_enter Try.func5, Try.ntmps5
  go_wp2_with (first
    | (refine wp_loadF rfl (.tmp 8) rfl (w.heap.size + 1) _ rfl BF0.out rfl ?_)
    | (go_at_call 8; (with_reducible refine (HD.out.run _ _ KF0.out (rf_made (by simp) HB.out)).mono ?_); intro e w1 r; obtain ⟨dv, rfl, ho, hk⟩ := r.opn; obtain ⟨da, dc, rfl⟩ := OwnsT.form ho.out; have K1 := Lib.hid (ktr KF0.out hk.out); have BF1 := Lib.hid (BFA.out.kpt hk.out); have BC1 := Lib.hid (BCA.out.kpt hk.out); clear r hk ho)
    | (refine wp_loadF rfl (.tmp 8) rfl (w.heap.size + 1) _ rfl BF1.out rfl ?_)
    | (go_at_call 13; (with_reducible refine (HL.out.run _).mono ?_); rintro e w2 ⟨rfl, k1⟩; have K2 := Lib.hid (ktr K1.out k1); have BC2 := Lib.hid (BC1.out.kpt k1); have ZB := Lib.hid (Blk.made w2 #[.int .i64 0, .int .i64 0, .int .i64 0, .int .i64 0, .int .i64 0, .int .i64 0, .int .i64 0, .int .i64 0, .int .i64 0, .int .i64 0] 39); have KZ : Hid (Kpt w (w2.alloc (.cells #[.int .i64 0, .int .i64 0, .int .i64 0, .int .i64 0, .int .i64 0, .int .i64 0, .int .i64 0, .int .i64 0, .int .i64 0, .int .i64 0] 39))) := K2.out.alloc _; clear k1)
    | (refine wp_storeF rfl (.tmp 15) (.tmp 35) rfl w2.heap.size _ _ rfl rfl ZB.out rfl rfl (by simp [Value.oneCell']) ?_; intro w3 r9 k9 o9; have R3 := Lib.hid r9; have K23 : Hid (Kpt w2 w3) := Lib.hid (k9 _ _ ((Kpt.refl w2).alloc _) (Nat.le_refl _)); have K3 := Lib.hid (ktr K2.out K23.out); have BC3 := Lib.hid (BC2.out.kpt K23.out); clear r9 k9 o9)
    | (go_at_call 9; (with_reducible refine (penaltyBegun _).mono ?_); rintro e w4 ⟨rfl, k1⟩; have K34 := Lib.hid k1; have K4 := Lib.hid (ktr K3.out k1); clear k1)
    | (go_at_call 14; (with_reducible refine (failBegun _).mono ?_); rintro e w5 ⟨rfl, k1⟩; have K35 := Lib.hid (ktr K34.out k1); have K5 := Lib.hid (ktr K4.out k1); have BC5 := Lib.hid (BC3.out.kpt K35.out); have R5 := Lib.hid (R3.out.kpt K35.out); have c0 : w5.cell? ⟨w.heap.size, 0, none⟩ = some (.int .i64 W) := BC5.out.cell 0; have c1 : w5.cell? ⟨w.heap.size, 1, none⟩ = some v := BC5.out.cell 1; clear k1))
  go_ret
  exact ⟨rfl, K5.out⟩

set_option maxRecDepth 100000 in
set_option maxHeartbeats 4000000 in
theorem pless_c0 (W q n : Int) (v tv pv : Value) (i f t c p d u x b y p0 p1 p2 p3 p4 p5 p6 p7 p8 p9 : Int) (w : World) (o : Int) (hoz : (o == 0) = false) (ds : List (Int × Int × Int)) (hb : FlB [i, f, t, c, p, d, u, x, b, y]) (D : Day1 W q v tv pv [i, f, t, c, p, d, u, x, b, y] w 0 ds) (L : DelIs i f t c p d u x b y n p0 p1 p2 p3 p4 p5 p6 p7 p8 p9 0) (hb2 : FlB [p0, p1, p2, p3, p4, p5, p6, p7, p8, p9]) (DD : Day1 W q v tv pv [p0, p1, p2, p3, p4, p5, p6, p7, p8, p9] w 0 []) (O : ∀ w, Calls Try.prog 15 #[.agg #[.int .i64 p0, .int .i64 p1, .int .i64 p2, .int .i64 p3, .int .i64 p4, .int .i64 p5, .int .i64 p6, .int .i64 p7, .int .i64 p8, .int .i64 p9]] w fun e w' => e = .returned (.tuple #[.int .i64 o, .int .i64 0]) ∧ Kpt w w') :
    Calls Try.prog 5 #[calV W v, tv, .agg #[.int .i64 i, .int .i64 f, .int .i64 t, .int .i64 c, .int .i64 p, .int .i64 d, .int .i64 u, .int .i64 x, .int .i64 b, .int .i64 y], pv, .int .i64 q, .int .i64 n] w fun e w' => e = .returned (.bool true) ∧ Kpt w w' := by
  have HB := Lib.hid hb
  have HD := Lib.hid D
  have HL := Lib.hid L
  have HB2 := Lib.hid hb2
  have HD2 := Lib.hid DD
  have HO := Lib.hid O
  have zl : decide ((ds.length : Int) < 0) = false := decide_eq_false (by omega)
  have zl2 : ¬ (ds.length : Int) < 0 := by omega
  clear D L hb DD hb2 O
  have BFA : Hid (Blk (((w.alloc (.cells #[.int .i64 W, v] 24)).alloc (.cells #[.int .i64 i, .int .i64 f, .int .i64 t, .int .i64 c, .int .i64 p, .int .i64 d, .int .i64 u, .int .i64 x, .int .i64 b, .int .i64 y] 39)).alloc (.cells #[.int .i64 i, .int .i64 f, .int .i64 t, .int .i64 c, .int .i64 p, .int .i64 d, .int .i64 u, .int .i64 x, .int .i64 b, .int .i64 y] 39)) (w.heap.size + 1) #[.int .i64 i, .int .i64 f, .int .i64 t, .int .i64 c, .int .i64 p, .int .i64 d, .int .i64 u, .int .i64 x, .int .i64 b, .int .i64 y] 39) := (pl_second _ _ _ _ _).alloc _
  have BF0 : Hid (Blk ((w.alloc (.cells #[.int .i64 W, v] 24)).alloc (.cells #[.int .i64 i, .int .i64 f, .int .i64 t, .int .i64 c, .int .i64 p, .int .i64 d, .int .i64 u, .int .i64 x, .int .i64 b, .int .i64 y] 39)) (w.heap.size + 1) #[.int .i64 i, .int .i64 f, .int .i64 t, .int .i64 c, .int .i64 p, .int .i64 d, .int .i64 u, .int .i64 x, .int .i64 b, .int .i64 y] 39) := pl_second _ _ _ _ _
  have BCA : Hid (Blk (((w.alloc (.cells #[.int .i64 W, v] 24)).alloc (.cells #[.int .i64 i, .int .i64 f, .int .i64 t, .int .i64 c, .int .i64 p, .int .i64 d, .int .i64 u, .int .i64 x, .int .i64 b, .int .i64 y] 39)).alloc (.cells #[.int .i64 i, .int .i64 f, .int .i64 t, .int .i64 c, .int .i64 p, .int .i64 d, .int .i64 u, .int .i64 x, .int .i64 b, .int .i64 y] 39)) w.heap.size #[.int .i64 W, v] 24) := ((Blk.made _ _ _).alloc _).alloc _
  have KF0 : Hid (Kpt w (((w.alloc (.cells #[.int .i64 W, v] 24)).alloc (.cells #[.int .i64 i, .int .i64 f, .int .i64 t, .int .i64 c, .int .i64 p, .int .i64 d, .int .i64 u, .int .i64 x, .int .i64 b, .int .i64 y] 39)).alloc (.cells #[.int .i64 i, .int .i64 f, .int .i64 t, .int .i64 c, .int .i64 p, .int .i64 d, .int .i64 u, .int .i64 x, .int .i64 b, .int .i64 y] 39))) := (((Kpt.refl w).alloc _).alloc _).alloc _
  unfold calV
  go_enter Try.func5, Try.ntmps5
  go_wp2_with (first
    | (refine wp_loadF rfl (.tmp 8) rfl (w.heap.size + 1) _ rfl BF0.out rfl ?_)
    | (go_at_call 8; (with_reducible refine (HD.out.run _ _ KF0.out (rf_made (by simp) HB.out)).mono ?_); intro e w1 r; obtain ⟨dv, rfl, ho, hk⟩ := r.opn; obtain ⟨da, dc, rfl⟩ := OwnsT.form ho.out; have K1 := Lib.hid (ktr KF0.out hk.out); have BF1 := Lib.hid (BFA.out.kpt hk.out); have BC1 := Lib.hid (BCA.out.kpt hk.out); clear r hk ho)
    | (refine wp_loadF rfl (.tmp 8) rfl (w.heap.size + 1) _ rfl BF1.out rfl ?_)
    | (go_at_call 13; (with_reducible refine (HL.out.run _).mono ?_); rintro e w2 ⟨rfl, k1⟩; have K2 := Lib.hid (ktr K1.out k1); have BC2 := Lib.hid (BC1.out.kpt k1); have ZB := Lib.hid (Blk.made w2 #[.int .i64 0, .int .i64 0, .int .i64 0, .int .i64 0, .int .i64 0, .int .i64 0, .int .i64 0, .int .i64 0, .int .i64 0, .int .i64 0] 39); have KZ : Hid (Kpt w (w2.alloc (.cells #[.int .i64 0, .int .i64 0, .int .i64 0, .int .i64 0, .int .i64 0, .int .i64 0, .int .i64 0, .int .i64 0, .int .i64 0, .int .i64 0] 39))) := K2.out.alloc _; clear k1)
    | (refine wp_storeF rfl (.tmp 15) (.tmp 35) rfl w2.heap.size _ _ rfl rfl ZB.out rfl rfl (by simp [Value.oneCell']) ?_; intro w3 r9 k9 o9; have R3 := Lib.hid r9; have K23 : Hid (Kpt w2 w3) := Lib.hid (k9 _ _ ((Kpt.refl w2).alloc _) (Nat.le_refl _)); have K3 := Lib.hid (ktr K2.out K23.out); have BC3 := Lib.hid (BC2.out.kpt K23.out); clear r9 k9 o9)
    | (go_at_call 9; (with_reducible refine (penaltyBegun _).mono ?_); rintro e w4 ⟨rfl, k1⟩; have K34 := Lib.hid k1; have K4 := Lib.hid (ktr K3.out k1); clear k1)
    | (go_at_call 14; (with_reducible refine (failBegun _).mono ?_); rintro e w5 ⟨rfl, k1⟩; have K35 := Lib.hid (ktr K34.out k1); have K5 := Lib.hid (ktr K4.out k1); have BC5 := Lib.hid (BC3.out.kpt K35.out); have R5 := Lib.hid (R3.out.kpt K35.out); have c0 : w5.cell? ⟨w.heap.size, 0, none⟩ = some (.int .i64 W) := BC5.out.cell 0; have c1 : w5.cell? ⟨w.heap.size, 1, none⟩ = some v := BC5.out.cell 1; clear k1)
    | (refine wp_loadF rfl (.tmp 15) rfl w2.heap.size _ rfl R5.out rfl ?_)
    | (go_at_call 8; (with_reducible refine (HD2.out.run _ _ (K5.out.alloc _) (rf_made rfl HB2.out)).mono ?_); intro e w6 r; obtain ⟨bv, rfl, ho, hk⟩ := r.opn; obtain ⟨ba, bc, rfl⟩ := OwnsT.form ho.out; have K56 : Hid (Kpt w5 w6) := Lib.hid (ktr ((Kpt.refl w5).alloc _) hk.out); have K6 := Lib.hid (ktr K5.out K56.out); have R6 := Lib.hid (R5.out.kpt K56.out); clear r hk ho)
    | (refine wp_loadF rfl (.tmp 15) rfl w2.heap.size _ rfl R6.out rfl ?_)
    | (go_at_call 15; (with_reducible refine (HO.out _).mono ?_); rintro e w7 ⟨rfl, k1⟩; have K7 := Lib.hid (ktr K6.out k1); clear k1))
  go_quiet (fail)
  go_wp2
  go_ret
  exact ⟨rfl, K7.out.drewN _⟩

set_option maxRecDepth 100000 in
set_option maxHeartbeats 4000000 in
theorem pless_c1 (W q n : Int) (v tv pv : Value) (i f t c p d u x b y p0 p1 p2 p3 p4 p5 p6 p7 p8 p9 : Int) (w : World) (o : Int) (hoz : (o == 0) = true) (ds : List (Int × Int × Int)) (hb : FlB [i, f, t, c, p, d, u, x, b, y]) (D : Day1 W q v tv pv [i, f, t, c, p, d, u, x, b, y] w 0 ds) (L : DelIs i f t c p d u x b y n p0 p1 p2 p3 p4 p5 p6 p7 p8 p9 0) (hb2 : FlB [p0, p1, p2, p3, p4, p5, p6, p7, p8, p9]) (DD : Day1 W q v tv pv [p0, p1, p2, p3, p4, p5, p6, p7, p8, p9] w 0 []) (O : ∀ w, Calls Try.prog 15 #[.agg #[.int .i64 p0, .int .i64 p1, .int .i64 p2, .int .i64 p3, .int .i64 p4, .int .i64 p5, .int .i64 p6, .int .i64 p7, .int .i64 p8, .int .i64 p9]] w fun e w' => e = .returned (.tuple #[.int .i64 o, .int .i64 0]) ∧ Kpt w w') :
    Calls Try.prog 5 #[calV W v, tv, .agg #[.int .i64 i, .int .i64 f, .int .i64 t, .int .i64 c, .int .i64 p, .int .i64 d, .int .i64 u, .int .i64 x, .int .i64 b, .int .i64 y], pv, .int .i64 q, .int .i64 n] w fun e w' => e = .returned (.bool true) ∧ Kpt w w' := by
  have HB := Lib.hid hb
  have HD := Lib.hid D
  have HL := Lib.hid L
  have HB2 := Lib.hid hb2
  have HD2 := Lib.hid DD
  have HO := Lib.hid O
  have zl : decide ((ds.length : Int) < 0) = false := decide_eq_false (by omega)
  have zl2 : ¬ (ds.length : Int) < 0 := by omega
  clear D L hb DD hb2 O
  have BFA : Hid (Blk (((w.alloc (.cells #[.int .i64 W, v] 24)).alloc (.cells #[.int .i64 i, .int .i64 f, .int .i64 t, .int .i64 c, .int .i64 p, .int .i64 d, .int .i64 u, .int .i64 x, .int .i64 b, .int .i64 y] 39)).alloc (.cells #[.int .i64 i, .int .i64 f, .int .i64 t, .int .i64 c, .int .i64 p, .int .i64 d, .int .i64 u, .int .i64 x, .int .i64 b, .int .i64 y] 39)) (w.heap.size + 1) #[.int .i64 i, .int .i64 f, .int .i64 t, .int .i64 c, .int .i64 p, .int .i64 d, .int .i64 u, .int .i64 x, .int .i64 b, .int .i64 y] 39) := (pl_second _ _ _ _ _).alloc _
  have BF0 : Hid (Blk ((w.alloc (.cells #[.int .i64 W, v] 24)).alloc (.cells #[.int .i64 i, .int .i64 f, .int .i64 t, .int .i64 c, .int .i64 p, .int .i64 d, .int .i64 u, .int .i64 x, .int .i64 b, .int .i64 y] 39)) (w.heap.size + 1) #[.int .i64 i, .int .i64 f, .int .i64 t, .int .i64 c, .int .i64 p, .int .i64 d, .int .i64 u, .int .i64 x, .int .i64 b, .int .i64 y] 39) := pl_second _ _ _ _ _
  have BCA : Hid (Blk (((w.alloc (.cells #[.int .i64 W, v] 24)).alloc (.cells #[.int .i64 i, .int .i64 f, .int .i64 t, .int .i64 c, .int .i64 p, .int .i64 d, .int .i64 u, .int .i64 x, .int .i64 b, .int .i64 y] 39)).alloc (.cells #[.int .i64 i, .int .i64 f, .int .i64 t, .int .i64 c, .int .i64 p, .int .i64 d, .int .i64 u, .int .i64 x, .int .i64 b, .int .i64 y] 39)) w.heap.size #[.int .i64 W, v] 24) := ((Blk.made _ _ _).alloc _).alloc _
  have KF0 : Hid (Kpt w (((w.alloc (.cells #[.int .i64 W, v] 24)).alloc (.cells #[.int .i64 i, .int .i64 f, .int .i64 t, .int .i64 c, .int .i64 p, .int .i64 d, .int .i64 u, .int .i64 x, .int .i64 b, .int .i64 y] 39)).alloc (.cells #[.int .i64 i, .int .i64 f, .int .i64 t, .int .i64 c, .int .i64 p, .int .i64 d, .int .i64 u, .int .i64 x, .int .i64 b, .int .i64 y] 39))) := (((Kpt.refl w).alloc _).alloc _).alloc _
  unfold calV
  go_enter Try.func5, Try.ntmps5
  go_wp2_with (first
    | (refine wp_loadF rfl (.tmp 8) rfl (w.heap.size + 1) _ rfl BF0.out rfl ?_)
    | (go_at_call 8; (with_reducible refine (HD.out.run _ _ KF0.out (rf_made (by simp) HB.out)).mono ?_); intro e w1 r; obtain ⟨dv, rfl, ho, hk⟩ := r.opn; obtain ⟨da, dc, rfl⟩ := OwnsT.form ho.out; have K1 := Lib.hid (ktr KF0.out hk.out); have BF1 := Lib.hid (BFA.out.kpt hk.out); have BC1 := Lib.hid (BCA.out.kpt hk.out); clear r hk ho)
    | (refine wp_loadF rfl (.tmp 8) rfl (w.heap.size + 1) _ rfl BF1.out rfl ?_)
    | (go_at_call 13; (with_reducible refine (HL.out.run _).mono ?_); rintro e w2 ⟨rfl, k1⟩; have K2 := Lib.hid (ktr K1.out k1); have BC2 := Lib.hid (BC1.out.kpt k1); have ZB := Lib.hid (Blk.made w2 #[.int .i64 0, .int .i64 0, .int .i64 0, .int .i64 0, .int .i64 0, .int .i64 0, .int .i64 0, .int .i64 0, .int .i64 0, .int .i64 0] 39); have KZ : Hid (Kpt w (w2.alloc (.cells #[.int .i64 0, .int .i64 0, .int .i64 0, .int .i64 0, .int .i64 0, .int .i64 0, .int .i64 0, .int .i64 0, .int .i64 0, .int .i64 0] 39))) := K2.out.alloc _; clear k1)
    | (refine wp_storeF rfl (.tmp 15) (.tmp 35) rfl w2.heap.size _ _ rfl rfl ZB.out rfl rfl (by simp [Value.oneCell']) ?_; intro w3 r9 k9 o9; have R3 := Lib.hid r9; have K23 : Hid (Kpt w2 w3) := Lib.hid (k9 _ _ ((Kpt.refl w2).alloc _) (Nat.le_refl _)); have K3 := Lib.hid (ktr K2.out K23.out); have BC3 := Lib.hid (BC2.out.kpt K23.out); clear r9 k9 o9)
    | (go_at_call 9; (with_reducible refine (penaltyBegun _).mono ?_); rintro e w4 ⟨rfl, k1⟩; have K34 := Lib.hid k1; have K4 := Lib.hid (ktr K3.out k1); clear k1)
    | (go_at_call 14; (with_reducible refine (failBegun _).mono ?_); rintro e w5 ⟨rfl, k1⟩; have K35 := Lib.hid (ktr K34.out k1); have K5 := Lib.hid (ktr K4.out k1); have BC5 := Lib.hid (BC3.out.kpt K35.out); have R5 := Lib.hid (R3.out.kpt K35.out); have c0 : w5.cell? ⟨w.heap.size, 0, none⟩ = some (.int .i64 W) := BC5.out.cell 0; have c1 : w5.cell? ⟨w.heap.size, 1, none⟩ = some v := BC5.out.cell 1; clear k1)
    | (refine wp_loadF rfl (.tmp 15) rfl w2.heap.size _ rfl R5.out rfl ?_)
    | (go_at_call 8; (with_reducible refine (HD2.out.run _ _ (K5.out.alloc _) (rf_made rfl HB2.out)).mono ?_); intro e w6 r; obtain ⟨bv, rfl, ho, hk⟩ := r.opn; obtain ⟨ba, bc, rfl⟩ := OwnsT.form ho.out; have K56 : Hid (Kpt w5 w6) := Lib.hid (ktr ((Kpt.refl w5).alloc _) hk.out); have K6 := Lib.hid (ktr K5.out K56.out); have R6 := Lib.hid (R5.out.kpt K56.out); clear r hk ho)
    | (refine wp_loadF rfl (.tmp 15) rfl w2.heap.size _ rfl R6.out rfl ?_)
    | (go_at_call 15; (with_reducible refine (HO.out _).mono ?_); rintro e w7 ⟨rfl, k1⟩; have K7 := Lib.hid (ktr K6.out k1); clear k1))
  go_quiet (fail)
  go_wp2
  go_ret
  exact ⟨rfl, K7.out.drewN _⟩

theorem rp_one1 {w : World} {v : Value} {F T C : Int} (h : ReadsP w v [(F, T, C)]) : ∃ (g : Nat × Nat) (cap : Nat), v = .slice (some ⟨g.1, g.2, none⟩) 1 cap ∧ w.cell? ⟨g.1, g.2, none⟩ = some (.int .i64 F) ∧ w.cell? ⟨g.1, g.2 + 1, none⟩ = some (.int .i64 T) ∧ w.cell? ⟨g.1, g.2 + 2, none⟩ = some (.int .i64 C) := by
  obtain ⟨a, cap, rfl, -, -, -, hc⟩ := h
  obtain ⟨b, off, rfl, h0, h1, h2⟩ := hc 0 (by simp)
  exact ⟨(b, off), cap, rfl, by simpa using h0, by simpa using h1, by simpa using h2⟩

set_option maxRecDepth 100000 in
set_option maxHeartbeats 4000000 in
theorem pless_d (W q n : Int) (v tv pv : Value) (i f t c p d u x b y p0 p1 p2 p3 p4 p5 p6 p7 p8 p9 : Int) (w : World) (o C C2 : Int) (ho0 : (o == 0) = false) (hC : C2 ≤ C) (i1 : InP [(f, t, C)]) (i2 : InP [(f, t, C2)]) (hb : FlB [i, f, t, c, p, d, u, x, b, y]) (D : Day1 W q v tv pv [i, f, t, c, p, d, u, x, b, y] w 0 [(f, t, C)]) (L : DelIs i f t c p d u x b y n p0 p1 p2 p3 p4 p5 p6 p7 p8 p9 0) (hb2 : FlB [p0, p1, p2, p3, p4, p5, p6, p7, p8, p9]) (DD : Day1 W q v tv pv [p0, p1, p2, p3, p4, p5, p6, p7, p8, p9] w 0 [(f, t, C2)]) (O : ∀ w, Calls Try.prog 15 #[.agg #[.int .i64 p0, .int .i64 p1, .int .i64 p2, .int .i64 p3, .int .i64 p4, .int .i64 p5, .int .i64 p6, .int .i64 p7, .int .i64 p8, .int .i64 p9]] w fun e w' => e = .returned (.tuple #[.int .i64 o, .int .i64 0]) ∧ Kpt w w') :
    Calls Try.prog 5 #[calV W v, tv, .agg #[.int .i64 i, .int .i64 f, .int .i64 t, .int .i64 c, .int .i64 p, .int .i64 d, .int .i64 u, .int .i64 x, .int .i64 b, .int .i64 y], pv, .int .i64 q, .int .i64 n] w fun e w' => e = .returned (.bool true) ∧ Kpt w w' := by
  have HB := Lib.hid hb
  have HD := Lib.hid D
  have HL := Lib.hid L
  have HB2 := Lib.hid hb2
  have HD2 := Lib.hid DD
  have HO := Lib.hid O
  have ID := Lib.hid i1
  have ID2 := Lib.hid i2
  have zc : decide (C2 ≤ C) = true := decide_eq_true hC
  clear D L hb DD hb2 O i1 i2
  have BFA : Hid (Blk (((w.alloc (.cells #[.int .i64 W, v] 24)).alloc (.cells #[.int .i64 i, .int .i64 f, .int .i64 t, .int .i64 c, .int .i64 p, .int .i64 d, .int .i64 u, .int .i64 x, .int .i64 b, .int .i64 y] 39)).alloc (.cells #[.int .i64 i, .int .i64 f, .int .i64 t, .int .i64 c, .int .i64 p, .int .i64 d, .int .i64 u, .int .i64 x, .int .i64 b, .int .i64 y] 39)) (w.heap.size + 1) #[.int .i64 i, .int .i64 f, .int .i64 t, .int .i64 c, .int .i64 p, .int .i64 d, .int .i64 u, .int .i64 x, .int .i64 b, .int .i64 y] 39) := (pl_second _ _ _ _ _).alloc _
  have BF0 : Hid (Blk ((w.alloc (.cells #[.int .i64 W, v] 24)).alloc (.cells #[.int .i64 i, .int .i64 f, .int .i64 t, .int .i64 c, .int .i64 p, .int .i64 d, .int .i64 u, .int .i64 x, .int .i64 b, .int .i64 y] 39)) (w.heap.size + 1) #[.int .i64 i, .int .i64 f, .int .i64 t, .int .i64 c, .int .i64 p, .int .i64 d, .int .i64 u, .int .i64 x, .int .i64 b, .int .i64 y] 39) := pl_second _ _ _ _ _
  have BCA : Hid (Blk (((w.alloc (.cells #[.int .i64 W, v] 24)).alloc (.cells #[.int .i64 i, .int .i64 f, .int .i64 t, .int .i64 c, .int .i64 p, .int .i64 d, .int .i64 u, .int .i64 x, .int .i64 b, .int .i64 y] 39)).alloc (.cells #[.int .i64 i, .int .i64 f, .int .i64 t, .int .i64 c, .int .i64 p, .int .i64 d, .int .i64 u, .int .i64 x, .int .i64 b, .int .i64 y] 39)) w.heap.size #[.int .i64 W, v] 24) := ((Blk.made _ _ _).alloc _).alloc _
  have KF0 : Hid (Kpt w (((w.alloc (.cells #[.int .i64 W, v] 24)).alloc (.cells #[.int .i64 i, .int .i64 f, .int .i64 t, .int .i64 c, .int .i64 p, .int .i64 d, .int .i64 u, .int .i64 x, .int .i64 b, .int .i64 y] 39)).alloc (.cells #[.int .i64 i, .int .i64 f, .int .i64 t, .int .i64 c, .int .i64 p, .int .i64 d, .int .i64 u, .int .i64 x, .int .i64 b, .int .i64 y] 39))) := (((Kpt.refl w).alloc _).alloc _).alloc _
  unfold calV
  go_enter Try.func5, Try.ntmps5
  go_wp2_with (first
    | (refine wp_loadF rfl (.tmp 8) rfl (w.heap.size + 1) _ rfl BF0.out rfl ?_)
    | (go_at_call 8; (with_reducible refine (HD.out.run _ _ KF0.out (rf_made (by simp) HB.out)).mono ?_); intro e w1 r; obtain ⟨dv, rfl, ho, hk⟩ := r.opn; have rd := OwnsT.reads ho.out ID.out; have RD1 := Lib.hid rd; obtain ⟨dg, dc, rfl, q0, q1, q2⟩ := rp_one1 rd; have RD1 := Lib.hid (show PtAt w1 dg.1 dg.2 (f, t, C) from ⟨q0, q1, q2⟩); clear q0 q1 q2 rd; have K1 := Lib.hid (ktr KF0.out hk.out); have BF1 := Lib.hid (BFA.out.kpt hk.out); have BC1 := Lib.hid (BCA.out.kpt hk.out); clear r hk ho)
    | (refine wp_loadF rfl (.tmp 8) rfl (w.heap.size + 1) _ rfl BF1.out rfl ?_)
    | (go_at_call 13; (with_reducible refine (HL.out.run _).mono ?_); rintro e w2 ⟨rfl, k1⟩; have K2 := Lib.hid (ktr K1.out k1); have BC2 := Lib.hid (BC1.out.kpt k1); have RD2 := Lib.hid (RD1.out.kpt k1); have ZB := Lib.hid (Blk.made w2 #[.int .i64 0, .int .i64 0, .int .i64 0, .int .i64 0, .int .i64 0, .int .i64 0, .int .i64 0, .int .i64 0, .int .i64 0, .int .i64 0] 39); have KZ : Hid (Kpt w (w2.alloc (.cells #[.int .i64 0, .int .i64 0, .int .i64 0, .int .i64 0, .int .i64 0, .int .i64 0, .int .i64 0, .int .i64 0, .int .i64 0, .int .i64 0] 39))) := K2.out.alloc _; clear k1)
    | (refine wp_storeF rfl (.tmp 15) (.tmp 35) rfl w2.heap.size _ _ rfl rfl ZB.out rfl rfl (by simp [Value.oneCell']) ?_; intro w3 r9 k9 o9; have R3 := Lib.hid r9; have K23 : Hid (Kpt w2 w3) := Lib.hid (k9 _ _ ((Kpt.refl w2).alloc _) (Nat.le_refl _)); have K3 := Lib.hid (ktr K2.out K23.out); have BC3 := Lib.hid (BC2.out.kpt K23.out); have RD3 := Lib.hid (RD2.out.kpt K23.out); clear r9 k9 o9)
    | (go_at_call 9; (with_reducible refine (penaltyBegun _).mono ?_); rintro e w4 ⟨rfl, k1⟩; have K34 := Lib.hid k1; have K4 := Lib.hid (ktr K3.out k1); clear k1)
    | (go_at_call 14; (with_reducible refine (failBegun _).mono ?_); rintro e w5 ⟨rfl, k1⟩; have K35 := Lib.hid (ktr K34.out k1); have K5 := Lib.hid (ktr K4.out k1); have BC5 := Lib.hid (BC3.out.kpt K35.out); have R5 := Lib.hid (R3.out.kpt K35.out); have c0 : w5.cell? ⟨w.heap.size, 0, none⟩ = some (.int .i64 W) := BC5.out.cell 0; have c1 : w5.cell? ⟨w.heap.size, 1, none⟩ = some v := BC5.out.cell 1; have RD5 := Lib.hid (RD3.out.kpt K35.out); clear k1)
    | (refine wp_loadF rfl (.tmp 15) rfl w2.heap.size _ rfl R5.out rfl ?_)
    | (go_at_call 8; (with_reducible refine (HD2.out.run _ _ (K5.out.alloc _) (rf_made rfl HB2.out)).mono ?_); intro e w6 r; obtain ⟨bv, rfl, ho, hk⟩ := r.opn; have rd := OwnsT.reads ho.out ID2.out; obtain ⟨bg, bc, rfl, q0, q1, q2⟩ := rp_one1 rd; have RB6 := Lib.hid (show PtAt w6 bg.1 bg.2 (f, t, C2) from ⟨q0, q1, q2⟩); clear q0 q1 q2 rd; have K56 : Hid (Kpt w5 w6) := Lib.hid (ktr ((Kpt.refl w5).alloc _) hk.out); have K6 := Lib.hid (ktr K5.out K56.out); have R6 := Lib.hid (R5.out.kpt K56.out); have RD6 := Lib.hid (RD5.out.kpt K56.out); clear r hk ho)
    | (refine wp_loadF rfl (.tmp 15) rfl w2.heap.size _ rfl R6.out rfl ?_)
    | (go_at_call 15; (with_reducible refine (HO.out _).mono ?_); rintro e w7 ⟨rfl, k1⟩; have K7 := Lib.hid (ktr K6.out k1); obtain ⟨x0, x1, x2⟩ := RD6.out.kpt k1; obtain ⟨y0, y1, y2⟩ := RB6.out.kpt k1; simp only at x0 x1 x2 y0 y1 y2; clear k1))
  go_quiet (fail)
  go_wp2
  go_ret
  exact ⟨rfl, K7.out.drewN _⟩

theorem fl_b {i f t c p d u x b y : Int} (h : (-9223372036854775808 ≤ i ∧ i ≤ 9223372036854775807) ∧ (-9223372036854775808 ≤ f ∧ f ≤ 9223372036854775807) ∧ (-9223372036854775808 ≤ t ∧ t ≤ 9223372036854775807) ∧ (-9223372036854775808 ≤ c ∧ c ≤ 9223372036854775807) ∧ (-9223372036854775808 ≤ p ∧ p ≤ 9223372036854775807) ∧ (-9223372036854775808 ≤ d ∧ d ≤ 9223372036854775807) ∧ (-9223372036854775808 ≤ u ∧ u ≤ 9223372036854775807) ∧ (-9223372036854775808 ≤ x ∧ x ≤ 9223372036854775807) ∧ (-9223372036854775808 ≤ b ∧ b ≤ 9223372036854775807) ∧ (-9223372036854775808 ≤ y ∧ y ≤ 9223372036854775807)) : FlB [i, f, t, c, p, d, u, x, b, y] := by
  obtain ⟨h0, h1, h2, h3, h4, h5, h6, h7, h8, h9⟩ := h
  intro j hj
  rcases (show j = 0 ∨ j = 1 ∨ j = 2 ∨ j = 3 ∨ j = 4 ∨ j = 5 ∨ j = 6 ∨ j = 7 ∨ j = 8 ∨ j = 9 by omega) with rfl | rfl | rfl | rfl | rfl | rfl | rfl | rfl | rfl | rfl
  · exact h0
  · exact h1
  · exact h2
  · exact h3
  · exact h4
  · exact h5
  · exact h6
  · exact h7
  · exact h8
  · exact h9
theorem pless_plain (W : Int) (tv : Value) (i f t c p d u x b y : Int) (pv : Value) (q n : Int) (v : Value) (hs : List Int) (ts : List (List Int)) (ps : List Int) (w : World) (hr : Reads w v hs) (hf : Fits hs) (ht : ReadsT w tv ts)
    (hB : (-9223372036854775808 ≤ i ∧ i ≤ 9223372036854775807) ∧ (-9223372036854775808 ≤ f ∧ f ≤ 9223372036854775807) ∧ (-9223372036854775808 ≤ t ∧ t ≤ 9223372036854775807) ∧ (-9223372036854775808 ≤ c ∧ c ≤ 9223372036854775807) ∧ (-9223372036854775808 ≤ p ∧ p ≤ 9223372036854775807) ∧ (-9223372036854775808 ≤ d ∧ d ≤ 9223372036854775807) ∧ (-9223372036854775808 ≤ u ∧ u ≤ 9223372036854775807) ∧ (-9223372036854775808 ≤ x ∧ x ≤ 9223372036854775807) ∧ (-9223372036854775808 ≤ b ∧ b ≤ 9223372036854775807) ∧ (-9223372036854775808 ≤ y ∧ y ≤ 9223372036854775807))
    (hp : Reads w pv ps) (_ : ∀ z ∈ ps, -9223372036854775808 ≤ z ∧ z ≤ 9223372036854775807) (_ : -9223372036854775808 ≤ q ∧ q ≤ 9223372036854775807) (_ : -9223372036854775808 ≤ n ∧ n ≤ 9223372036854775807) :
    Calls Try.prog 5 #[calV W v, tv, .agg #[.int .i64 i, .int .i64 f, .int .i64 t, .int .i64 c, .int .i64 p, .int .i64 d, .int .i64 u, .int .i64 x, .int .i64 b, .int .i64 y], pv, .int .i64 q, .int .i64 n] w fun e w' => e = .returned (.bool true) ∧ Kpt w w' := by
  have D : ∀ l, Day1 W q v tv pv l w (dayE W hs ts [l] ps q) (dayD W hs ts [l] ps q) := fun l w' lv k r => day_any W q v tv lv pv hs ts [l] ps w' (hr.kpt k) hf (ht.kpt k) r (hp.kpt k)
  have hb := fl_b hB
  by_cases hT : takeE (failE i f t c p d u x b y) (openV i f t c p d u x b y) n = 0
  · obtain ⟨m1, m2, m3, m4⟩ := pl_deliv hT
    have L : DelIs i f t c p d u x b y n i f t c p d u (x + n) b y 0 := fun w => deliver_ok i f t c p d u x b y n w hT m1.1 m1.2.1 m1.2.2.1 m1.2.2.2
    by_cases hE : dayE W hs ts [[i, f, t, c, p, d, u, x, b, y]] ps q = 0
    · have D1 := D [i, f, t, c, p, d, u, x, b, y]
      rw [hE] at D1
      obtain ⟨e1, e2⟩ := pl_math hE hT
      have D2 := D [i, f, t, c, p, d, u, x + n, b, y]
      rw [e1] at D2
      have hb2 : FlB [i, f, t, c, p, d, u, x + n, b, y] := by
        obtain ⟨h0, h1, h2, h3, h4, h5, h6, h7, h8, h9⟩ := hB
        exact fl_b ⟨h0, h1, h2, h3, h4, h5, h6, by omega, h8, h9⟩
      have O := fun w => fopenX_run i f t c p d u (x + n) b y w
      rw [m2] at O
      rcases e2 with e2 | ⟨C, C', c1, c2, c3, c4, c5, c6, c7, c8⟩
      · rw [e2] at D2
        by_cases ho : openV i f t c p d u (x + n) b y = 0
        · exact pless_c1 W q n v tv pv i f t c p d u x b y i f t c p d u (x + n) b y w _ (beq_iff_eq.2 ho) _ hb D1 L hb2 D2 O
        · exact pless_c0 W q n v tv pv i f t c p d u x b y i f t c p d u (x + n) b y w _ (beq_eq_false_iff_ne.2 ho) _ hb D1 L hb2 D2 O
      · rw [c8] at D1
        rw [c7] at D2
        exact pless_d W q n v tv pv i f t c p d u x b y i f t c p d u (x + n) b y w _ C C' (beq_eq_false_iff_ne.2 c4) c2 (fun z hz => by rw [List.mem_singleton.1 hz]; simp only; omega) (fun z hz => by rw [List.mem_singleton.1 hz]; simp only; omega) hb D1 L hb2 D2 O
    · have D1 := D [i, f, t, c, p, d, u, x, b, y]
      rw [show dayD W hs ts [[i, f, t, c, p, d, u, x, b, y]] ps q = [] from if_neg hE] at D1
      exact pless_a W q n v tv pv i f t c p d u x b y i f t c p d u (x + n) b y w _ _ hE hb D1 L
  · have L : DelIs i f t c p d u x b y n 0 0 0 0 0 0 0 0 0 0 (takeE (failE i f t c p d u x b y) (openV i f t c p d u x b y) n) := fun w => deliver_bad i f t c p d u x b y n _ w rfl hT
    by_cases hE : dayE W hs ts [[i, f, t, c, p, d, u, x, b, y]] ps q = 0
    · have D1 := D [i, f, t, c, p, d, u, x, b, y]
      rw [hE] at D1
      exact pless_b W q n v tv pv i f t c p d u x b y 0 0 0 0 0 0 0 0 0 0 w _ _ hT hb D1 L
    · have D1 := D [i, f, t, c, p, d, u, x, b, y]
      rw [show dayD W hs ts [[i, f, t, c, p, d, u, x, b, y]] ps q = [] from if_neg hE] at D1
      exact pless_a W q n v tv pv i f t c p d u x b y 0 0 0 0 0 0 0 0 0 0 w _ _ hE hb D1 L

end Go.Proofs.Ytmoanndonfmihaa
