/-
  CompLimit and CompFarther: the laws answer true.
-/
import Derived.Test.YtoakibgekeajeaaCompD
namespace Go.Proofs.Ytoakibgekeajeaa
open Go.RowKit
set_option linter.unusedVariables false

def LmIs (p s m n e : Int) : Prop := ∀ w, Calls Try.prog 34 #[.int .i64 p, .int .i64 s, .int .i64 m] w fun r w' => r = .returned (.tuple #[.int .i64 n, .int .i64 e]) ∧ Kpt w w'
theorem LmIs.run {p s m n e : Int} (h : LmIs p s m n e) (w : World) : Calls Try.prog 34 #[.int .i64 p, .int .i64 s, .int .i64 m] w fun r w' => r = .returned (.tuple #[.int .i64 n, .int .i64 e]) ∧ Kpt w w' := h w
theorem lm_is (p s m : Int) : LmIs p s m (limQ p s m) (limE p s m) := limit_any p s m
theorem limE_0 {p s m : Int} (h : limE p s m = 0) : limB p s m = true ∧ limQ p s m = limV p s m := by
  unfold limE at h
  split at h
  · rename_i hb; exact ⟨hb, by unfold limQ; rw [if_pos hb]⟩
  · cases h
theorem limE_3 {p s m : Int} (h : limE p s m ≠ 0) : limQ p s m = 0 ∧ limE p s m = 3 := by
  unfold limE at h ⊢
  unfold limQ
  split at h
  · exact absurd rfl h
  · rename_i hb; exact ⟨if_neg hb, if_neg hb⟩
theorem lm_ok {p s m : Int} (h : limB p s m = true) : LmIs p s m (limV p s m) 0 := by
  have := lm_is p s m
  rwa [show limE p s m = 0 by unfold limE; rw [if_pos h], show limQ p s m = limV p s m by unfold limQ; rw [if_pos h]] at this

set_option maxRecDepth 100000 in
set_option maxHeartbeats 1000000 in
theorem climit_no (p s m e : Int) (he : e ≠ 0) (D : LmIs p s m 0 e) (w : World) : Calls Try.prog 13 #[.int .i64 p, .int .i64 s, .int .i64 m] w fun r w' => r = .returned (.bool true) ∧ Kpt w w' := by
  have D1 := Lib.hid D
  have q1 : (e != 0) = true := bne_iff_ne.2 he
  have K0 : Hid (Kpt w w) := Kpt.refl w
  clear D he
  go_enter Try.func13, Try.ntmps13
  go_wp2_with (first
    | (go_at_call 34; (with_reducible refine (D1.out.run _).mono ?_); rintro r w1 ⟨rfl, k1⟩; have K0 := Lib.hid (ktr K0.out k1); clear k1)
    | (go_at_call 39; (with_reducible refine (compBegun _).mono ?_); rintro r w1 ⟨rfl, k1⟩; have K0 := Lib.hid (ktr K0.out k1); clear k1))
  go_ret
  exact ⟨rfl, K0.out⟩
set_option maxRecDepth 100000 in
set_option maxHeartbeats 4000000 in
theorem climit_ok (p s m l : Int) (hl : (p ≤ s ∧ p ≤ l ∧ l ≤ s) ∨ (s < p ∧ l ≤ p ∧ s ≤ l)) (D1 : LmIs p s m l 0) (D2 : LmIs l s m l 0) (D3 : LmIs s s m s 0) (D4 : LmIs p s 0 s 0) (w : World) : Calls Try.prog 13 #[.int .i64 p, .int .i64 s, .int .i64 m] w fun r w' => r = .returned (.bool true) ∧ Kpt w w' := by
  have E1 := Lib.hid D1
  have E2 := Lib.hid D2
  have E3 := Lib.hid D3
  have E4 := Lib.hid D4
  have K0 : Hid (Kpt w w) := Kpt.refl w
  clear D1 D2 D3 D4
  rcases hl with ⟨h1, h2, h3⟩ | ⟨h1, h2, h3⟩
  · have d1 : decide (p ≤ s) = true := decide_eq_true h1
    have d2 : decide (p ≤ l) = true := decide_eq_true h2
    have d3 : decide (l ≤ s) = true := decide_eq_true h3
    clear h1 h2 h3
    go_enter Try.func13, Try.ntmps13
    go_wp2_with (first
      | (go_at_call 34; (with_reducible refine (E1.out.run _).mono ?_); rintro r w1 ⟨rfl, k1⟩; have K0 := Lib.hid (ktr K0.out k1); clear k1)
      | (go_at_call 34; (with_reducible refine (E2.out.run _).mono ?_); rintro r w1 ⟨rfl, k1⟩; have K0 := Lib.hid (ktr K0.out k1); clear k1)
      | (go_at_call 34; (with_reducible refine (E3.out.run _).mono ?_); rintro r w1 ⟨rfl, k1⟩; have K0 := Lib.hid (ktr K0.out k1); clear k1)
      | (go_at_call 34; (with_reducible refine (E4.out.run _).mono ?_); rintro r w1 ⟨rfl, k1⟩; have K0 := Lib.hid (ktr K0.out k1); clear k1)
      | (go_at_call 39; (with_reducible refine (compBegun _).mono ?_); rintro r w1 ⟨rfl, k1⟩; have K0 := Lib.hid (ktr K0.out k1); clear k1))
    go_ret
    exact ⟨rfl, K0.out⟩
  · have d1 : decide (p ≤ s) = false := decide_eq_false (by omega)
    have d2 : decide (s ≤ p) = true := decide_eq_true (by omega)
    have d3 : decide (l ≤ p) = true := decide_eq_true h2
    have d4 : decide (s ≤ l) = true := decide_eq_true h3
    clear h1 h2 h3
    go_enter Try.func13, Try.ntmps13
    go_wp2_with (first
      | (go_at_call 34; (with_reducible refine (E1.out.run _).mono ?_); rintro r w1 ⟨rfl, k1⟩; have K0 := Lib.hid (ktr K0.out k1); clear k1)
      | (go_at_call 34; (with_reducible refine (E2.out.run _).mono ?_); rintro r w1 ⟨rfl, k1⟩; have K0 := Lib.hid (ktr K0.out k1); clear k1)
      | (go_at_call 34; (with_reducible refine (E3.out.run _).mono ?_); rintro r w1 ⟨rfl, k1⟩; have K0 := Lib.hid (ktr K0.out k1); clear k1)
      | (go_at_call 34; (with_reducible refine (E4.out.run _).mono ?_); rintro r w1 ⟨rfl, k1⟩; have K0 := Lib.hid (ktr K0.out k1); clear k1)
      | (go_at_call 39; (with_reducible refine (compBegun _).mono ?_); rintro r w1 ⟨rfl, k1⟩; have K0 := Lib.hid (ktr K0.out k1); clear k1))
    go_ret
    exact ⟨rfl, K0.out⟩
theorem climit_plain (p s m : Int) (w : World) : Calls Try.prog 13 #[.int .i64 p, .int .i64 s, .int .i64 m] w fun r w' => r = .returned (.bool true) ∧ Kpt w w' := by
  have D1 := lm_is p s m
  by_cases he : limE p s m = 0
  · obtain ⟨hb, hq⟩ := limE_0 he
    obtain ⟨hp, hs, hm⟩ := lim_t hb
    have d := lim_bd hs hm
    rw [he, hq] at D1
    obtain ⟨l, hl⟩ : ∃ l, limV p s m = l := ⟨_, rfl⟩
    rw [hl] at D1
    unfold limV at hl
    have D2 := lm_ok (p := l) (s := s) (m := m) (lim_mk (by omega) hs hm)
    have D3 := lm_ok (p := s) (s := s) (m := m) (lim_mk hs hs hm)
    have D4 := lm_ok (p := p) (s := s) (m := 0) (lim_mk hp hs (by omega))
    rw [show limV l s m = l by unfold limV; omega] at D2
    rw [show limV s s m = s by unfold limV; omega] at D3
    rw [show limV p s 0 = s by unfold limV; rw [Int.mul_zero]; omega] at D4
    exact climit_ok p s m l (by omega) D1 D2 D3 D4 w
  · rw [(limE_3 he).1] at D1
    exact climit_no p s m _ he D1 w

theorem far_run (n s : Int) (B : Nat) (hn : 0 ≤ n ∧ n ≤ 1099511627776) (hs : 0 ≤ s ∧ s ≤ 1099511627776) (f : Int) (hf : max (n - s) (s - n) = f) (w : World) (h : w.cell? ⟨B, 0, none⟩ = some (.int .i64 s)) : Calls Try.prog 46 #[.int .i64 n, .pointer (some ⟨B, 0, none⟩)] w fun r w' => r = .returned (.int .i64 f) ∧ Kpt w w' := by
  obtain ⟨n0, n1⟩ := hn
  obtain ⟨s0, s1⟩ := hs
  go_enter Try.func46, Try.ntmps46
  go_wp2
  go_ret
  exact ⟨rfl, Kpt.refl _⟩

set_option maxRecDepth 100000 in
set_option maxHeartbeats 2000000 in
theorem cfar_no (p s m r l q e f : Int) (h : (e ≠ 0 ∧ l = 0) ∨ (e = 0 ∧ (f ≠ 0 ∨ r < m))) (D1 : LmIs p s m l e) (D2 : LmIs p s r q f) (w : World) : Calls Try.prog 14 #[.int .i64 p, .int .i64 s, .int .i64 m, .int .i64 r] w fun x w' => x = .returned (.bool true) ∧ Kpt w w' := by
  have E1 := Lib.hid D1
  have E2 := Lib.hid D2
  clear D1 D2
  have K0 : Hid (Kpt w (w.alloc (.cells #[.int .i64 s] 3))) := (Kpt.refl w).alloc _
  have BS := Lib.hid (Blk.made w #[.int .i64 s] 3)
  rcases h with ⟨he, rfl⟩ | ⟨rfl, h⟩
  · have q1 : (e != 0) = true := bne_iff_ne.2 he
    have q2 : (e == 0) = false := beq_eq_false_iff_ne.2 he
    clear he
    go_enter Try.func14, Try.ntmps14
    go_wp2_with (first
      | (go_at_call 34; (with_reducible refine (E1.out.run _).mono ?_); rintro e w1 ⟨rfl, k1⟩; have K0 := Lib.hid (ktr K0.out k1); have BS := Lib.hid (Blk.kpt BS.out k1); have bs : World.cell? w1 ⟨w.heap.size, 0, none⟩ = some (.int .i64 s) := BS.out.cell 0; clear k1)
      | (go_at_call 34; (with_reducible refine (E2.out.run _).mono ?_); rintro e w1 ⟨rfl, k1⟩; have K0 := Lib.hid (ktr K0.out k1); have BS := Lib.hid (Blk.kpt BS.out k1); have bs : World.cell? w1 ⟨w.heap.size, 0, none⟩ = some (.int .i64 s) := BS.out.cell 0; clear k1)
      | (go_at_call 39; (with_reducible refine (compBegun _).mono ?_); rintro r w1 ⟨rfl, k1⟩; have K0 := Lib.hid (ktr K0.out k1); have BS := Lib.hid (Blk.kpt BS.out k1); have bs : World.cell? w1 ⟨w.heap.size, 0, none⟩ = some (.int .i64 s) := BS.out.cell 0; clear k1))
    go_ret
    exact ⟨rfl, K0.out⟩
  · by_cases hf : f = 0
    · have q1 : (f != 0) = false := by simpa using hf
      have q2 : decide (r < m) = true := decide_eq_true (by rcases h with g | g; exact absurd hf g; exact g)
      clear h hf
      go_enter Try.func14, Try.ntmps14
      go_wp2_with (first
        | (go_at_call 34; (with_reducible refine (E1.out.run _).mono ?_); rintro e w1 ⟨rfl, k1⟩; have K0 := Lib.hid (ktr K0.out k1); have BS := Lib.hid (Blk.kpt BS.out k1); have bs : World.cell? w1 ⟨w.heap.size, 0, none⟩ = some (.int .i64 s) := BS.out.cell 0; clear k1)
        | (go_at_call 34; (with_reducible refine (E2.out.run _).mono ?_); rintro e w1 ⟨rfl, k1⟩; have K0 := Lib.hid (ktr K0.out k1); have BS := Lib.hid (Blk.kpt BS.out k1); have bs : World.cell? w1 ⟨w.heap.size, 0, none⟩ = some (.int .i64 s) := BS.out.cell 0; clear k1)
        | (go_at_call 39; (with_reducible refine (compBegun _).mono ?_); rintro r w1 ⟨rfl, k1⟩; have K0 := Lib.hid (ktr K0.out k1); have BS := Lib.hid (Blk.kpt BS.out k1); have bs : World.cell? w1 ⟨w.heap.size, 0, none⟩ = some (.int .i64 s) := BS.out.cell 0; clear k1))
      go_ret
      exact ⟨rfl, K0.out⟩
    · have q1 : (f != 0) = true := bne_iff_ne.2 hf
      clear h hf
      go_enter Try.func14, Try.ntmps14
      go_wp2_with (first
        | (go_at_call 34; (with_reducible refine (E1.out.run _).mono ?_); rintro e w1 ⟨rfl, k1⟩; have K0 := Lib.hid (ktr K0.out k1); have BS := Lib.hid (Blk.kpt BS.out k1); have bs : World.cell? w1 ⟨w.heap.size, 0, none⟩ = some (.int .i64 s) := BS.out.cell 0; clear k1)
        | (go_at_call 34; (with_reducible refine (E2.out.run _).mono ?_); rintro e w1 ⟨rfl, k1⟩; have K0 := Lib.hid (ktr K0.out k1); have BS := Lib.hid (Blk.kpt BS.out k1); have bs : World.cell? w1 ⟨w.heap.size, 0, none⟩ = some (.int .i64 s) := BS.out.cell 0; clear k1)
        | (go_at_call 39; (with_reducible refine (compBegun _).mono ?_); rintro r w1 ⟨rfl, k1⟩; have K0 := Lib.hid (ktr K0.out k1); have BS := Lib.hid (Blk.kpt BS.out k1); have bs : World.cell? w1 ⟨w.heap.size, 0, none⟩ = some (.int .i64 s) := BS.out.cell 0; clear k1))
      go_ret
      exact ⟨rfl, K0.out⟩
set_option maxRecDepth 100000 in
set_option maxHeartbeats 4000000 in
theorem cfar_ok (p s m r l q x a b : Int) (hs : 0 ≤ s ∧ s ≤ 1099511627776) (hl : 0 ≤ l ∧ l ≤ 1099511627776) (hq : 0 ≤ q ∧ q ≤ 1099511627776) (hmr : m ≤ r) (ha : max (l - s) (s - l) = a) (hb : max (q - s) (s - q) = b) (hab : a ≤ b) (hx : x = p ∨ (x ≠ p ∧ x = 2 * s)) (D1 : LmIs p s m l 0) (D2 : LmIs p s r q 0) (D3 : LmIs p s 10000 x 0) (w : World) : Calls Try.prog 14 #[.int .i64 p, .int .i64 s, .int .i64 m, .int .i64 r] w fun x w' => x = .returned (.bool true) ∧ Kpt w w' := by
  have E1 := Lib.hid D1
  have E2 := Lib.hid D2
  have E3 := Lib.hid D3
  have F1 := Lib.hid (far_run l s w.heap.size hl hs a ha)
  have F2 := Lib.hid (far_run q s w.heap.size hq hs b hb)
  have d1 : decide (a ≤ b) = true := decide_eq_true hab
  have d2 : decide (r < m) = false := decide_eq_false (by omega)
  have m1 : IntKind.i64.wrap (2 * s) = 2 * s := IntWalk.i64_in _ (by omega)
  obtain ⟨s0, s1⟩ := hs
  clear D1 D2 D3 hl hq ha hb hab hmr
  have K0 : Hid (Kpt w (w.alloc (.cells #[.int .i64 s] 3))) := (Kpt.refl w).alloc _
  have BS := Lib.hid (Blk.made w #[.int .i64 s] 3)
  have bs : World.cell? (w.alloc (.cells #[.int .i64 s] 3)) ⟨w.heap.size, 0, none⟩ = some (.int .i64 s) := BS.out.cell 0
  rcases hx with rfl | ⟨hx, rfl⟩
  · skip
    go_enter Try.func14, Try.ntmps14
    go_wp2_with (first
      | (go_at_call 34; (with_reducible refine (E1.out.run _).mono ?_); rintro e w1 ⟨rfl, k1⟩; have K0 := Lib.hid (ktr K0.out k1); have BS := Lib.hid (Blk.kpt BS.out k1); have bs : World.cell? w1 ⟨w.heap.size, 0, none⟩ = some (.int .i64 s) := BS.out.cell 0; clear k1)
      | (go_at_call 34; (with_reducible refine (E2.out.run _).mono ?_); rintro e w1 ⟨rfl, k1⟩; have K0 := Lib.hid (ktr K0.out k1); have BS := Lib.hid (Blk.kpt BS.out k1); have bs : World.cell? w1 ⟨w.heap.size, 0, none⟩ = some (.int .i64 s) := BS.out.cell 0; clear k1)
      | (go_at_call 34; (with_reducible refine (E3.out.run _).mono ?_); rintro e w1 ⟨rfl, k1⟩; have K0 := Lib.hid (ktr K0.out k1); have BS := Lib.hid (Blk.kpt BS.out k1); have bs : World.cell? w1 ⟨w.heap.size, 0, none⟩ = some (.int .i64 s) := BS.out.cell 0; clear k1)
      | (go_at_call 39; (with_reducible refine (compBegun _).mono ?_); rintro r w1 ⟨rfl, k1⟩; have K0 := Lib.hid (ktr K0.out k1); have BS := Lib.hid (Blk.kpt BS.out k1); have bs : World.cell? w1 ⟨w.heap.size, 0, none⟩ = some (.int .i64 s) := BS.out.cell 0; clear k1)
      | (go_at_call 46; (with_reducible refine (F2.out _ (BS.out.cell 0)).mono ?_); rintro e w1 ⟨rfl, k1⟩; have K0 := Lib.hid (ktr K0.out k1); have BS := Lib.hid (Blk.kpt BS.out k1); have bs : World.cell? w1 ⟨w.heap.size, 0, none⟩ = some (.int .i64 s) := BS.out.cell 0; clear k1)
      | (go_at_call 46; (with_reducible refine (F1.out _ (BS.out.cell 0)).mono ?_); rintro e w1 ⟨rfl, k1⟩; have K0 := Lib.hid (ktr K0.out k1); have BS := Lib.hid (Blk.kpt BS.out k1); have bs : World.cell? w1 ⟨w.heap.size, 0, none⟩ = some (.int .i64 s) := BS.out.cell 0; clear k1))
    go_ret
    exact ⟨rfl, K0.out⟩
  · have q1 : (2 * s == p) = false := beq_eq_false_iff_ne.2 hx
    clear hx
    go_enter Try.func14, Try.ntmps14
    go_wp2_with (first
      | (go_at_call 34; (with_reducible refine (E1.out.run _).mono ?_); rintro e w1 ⟨rfl, k1⟩; have K0 := Lib.hid (ktr K0.out k1); have BS := Lib.hid (Blk.kpt BS.out k1); have bs : World.cell? w1 ⟨w.heap.size, 0, none⟩ = some (.int .i64 s) := BS.out.cell 0; clear k1)
      | (go_at_call 34; (with_reducible refine (E2.out.run _).mono ?_); rintro e w1 ⟨rfl, k1⟩; have K0 := Lib.hid (ktr K0.out k1); have BS := Lib.hid (Blk.kpt BS.out k1); have bs : World.cell? w1 ⟨w.heap.size, 0, none⟩ = some (.int .i64 s) := BS.out.cell 0; clear k1)
      | (go_at_call 34; (with_reducible refine (E3.out.run _).mono ?_); rintro e w1 ⟨rfl, k1⟩; have K0 := Lib.hid (ktr K0.out k1); have BS := Lib.hid (Blk.kpt BS.out k1); have bs : World.cell? w1 ⟨w.heap.size, 0, none⟩ = some (.int .i64 s) := BS.out.cell 0; clear k1)
      | (go_at_call 39; (with_reducible refine (compBegun _).mono ?_); rintro r w1 ⟨rfl, k1⟩; have K0 := Lib.hid (ktr K0.out k1); have BS := Lib.hid (Blk.kpt BS.out k1); have bs : World.cell? w1 ⟨w.heap.size, 0, none⟩ = some (.int .i64 s) := BS.out.cell 0; clear k1)
      | (go_at_call 46; (with_reducible refine (F2.out _ (BS.out.cell 0)).mono ?_); rintro e w1 ⟨rfl, k1⟩; have K0 := Lib.hid (ktr K0.out k1); have BS := Lib.hid (Blk.kpt BS.out k1); have bs : World.cell? w1 ⟨w.heap.size, 0, none⟩ = some (.int .i64 s) := BS.out.cell 0; clear k1)
      | (go_at_call 46; (with_reducible refine (F1.out _ (BS.out.cell 0)).mono ?_); rintro e w1 ⟨rfl, k1⟩; have K0 := Lib.hid (ktr K0.out k1); have BS := Lib.hid (Blk.kpt BS.out k1); have bs : World.cell? w1 ⟨w.heap.size, 0, none⟩ = some (.int .i64 s) := BS.out.cell 0; clear k1))
    go_ret
    exact ⟨rfl, K0.out⟩
theorem cfar_plain (p s m r : Int) (w : World) : Calls Try.prog 14 #[.int .i64 p, .int .i64 s, .int .i64 m, .int .i64 r] w fun x w' => x = .returned (.bool true) ∧ Kpt w w' := by
  have D1 := lm_is p s m
  have D2 := lm_is p s r
  by_cases he : limE p s m = 0
  · by_cases hf : limE p s r = 0
    · by_cases hr : r < m
      · exact cfar_no p s m r _ _ _ _ (.inr ⟨he, .inr hr⟩) D1 D2 w
      · obtain ⟨hb, hq⟩ := limE_0 he
        obtain ⟨hb2, hq2⟩ := limE_0 hf
        obtain ⟨hp, hs, hm⟩ := lim_t hb
        obtain ⟨_, _, hm2⟩ := lim_t hb2
        have d := lim_bd hs hm
        have d2 := lim_bd hs hm2
        have h1 : s * m ≤ s * r := Int.mul_le_mul_of_nonneg_left (by omega) hs.1
        have h2 := Int.ediv_le_ediv (c := 10000) (by decide) h1
        rw [he, hq] at D1
        rw [hf, hq2] at D2
        have D3 := lm_ok (p := p) (s := s) (m := 10000) (lim_mk hp hs (by omega))
        have v3 : limV p s 10000 = min p (2 * s) := by unfold limV; rw [Int.mul_ediv_cancel _ (by decide)]; omega
        rw [v3] at D3
        obtain ⟨l, hl⟩ : ∃ l, limV p s m = l := ⟨_, rfl⟩
        obtain ⟨q, hqq⟩ : ∃ q, limV p s r = q := ⟨_, rfl⟩
        rw [hl] at D1
        rw [hqq] at D2
        unfold limV at hl hqq
        exact cfar_ok p s m r l q (min p (2 * s)) _ _ hs (by omega) (by omega) (by omega) rfl rfl (by omega) (by omega) D1 D2 D3 w
    · exact cfar_no p s m r _ _ _ _ (.inr ⟨he, .inl hf⟩) D1 D2 w
  · rw [(limE_3 he).1] at D1
    exact cfar_no p s m r _ _ _ _ (.inl ⟨he, rfl⟩) D1 D2 w

end Go.Proofs.Ytoakibgekeajeaa
