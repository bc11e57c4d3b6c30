/-
  What must be of lots in any case: lotsBegun answers true.
-/
import Derived.Test.YtbohdhiadgcljaaLotE
namespace Go.Proofs.Ytbohdhiadgcljaa
open Go.RowKit
set_option linter.unusedVariables false

theorem lit3L (w : World) (T : TypeId) (p q r : Int × Int × Int) (h : InP [p, q, r]) : ReadsP (w.alloc (.cells #[.int .i64 p.1, .int .i64 p.2.1, .int .i64 p.2.2, .int .i64 q.1, .int .i64 q.2.1, .int .i64 q.2.2, .int .i64 r.1, .int .i64 r.2.1, .int .i64 r.2.2] T)) (.slice (some ⟨w.heap.size, 0, none⟩) 3 3) [p, q, r] := by
  refine ⟨_, 3, rfl, (fun e => by cases e), by unfold maxLen; simp, h, fun j hj => ⟨w.heap.size, 0, rfl, ?_⟩⟩
  have B := Blk.made w #[.int .i64 p.1, .int .i64 p.2.1, .int .i64 p.2.2, .int .i64 q.1, .int .i64 q.2.1, .int .i64 q.2.2, .int .i64 r.1, .int .i64 r.2.1, .int .i64 r.2.2] T
  rcases (show j = 0 ∨ j = 1 ∨ j = 2 by simp at hj; omega) with rfl | rfl | rfl
  · exact ⟨B.cell 0, B.cell 1, B.cell 2⟩
  · exact ⟨B.cell 3, B.cell 4, B.cell 5⟩
  · exact ⟨B.cell 6, B.cell 7, B.cell 8⟩

theorem lit2L (w : World) (T : TypeId) (p q : Int × Int × Int) (h : InP [p, q]) : ReadsP (w.alloc (.cells #[.int .i64 p.1, .int .i64 p.2.1, .int .i64 p.2.2, .int .i64 q.1, .int .i64 q.2.1, .int .i64 q.2.2] T)) (.slice (some ⟨w.heap.size, 0, none⟩) 2 2) [p, q] := by
  refine ⟨_, 2, rfl, (fun e => by cases e), by unfold maxLen; simp, h, fun j hj => ⟨w.heap.size, 0, rfl, ?_⟩⟩
  have B := Blk.made w #[.int .i64 p.1, .int .i64 p.2.1, .int .i64 p.2.2, .int .i64 q.1, .int .i64 q.2.1, .int .i64 q.2.2] T
  rcases (show j = 0 ∨ j = 1 by simp at hj; omega) with rfl | rfl
  · exact ⟨B.cell 0, B.cell 1, B.cell 2⟩
  · exact ⟨B.cell 3, B.cell 4, B.cell 5⟩
theorem inP_lots {l : List (Int × Int × Int)} (h : ∀ p ∈ l, lotB p = true) : InP l := fun p hp => by have := lot_t (h p hp); omega

def W0 : List (Int × Int × Int) := [(1, 10, 100), (2, 10, 300), (3, 7, 140)]
theorem W0_ok : ∀ p ∈ W0, lotB p = true := by decide
theorem three_run (w : World) : Calls Try.prog 54 #[] w fun e w' => ∃ a, e = .returned (.slice a 3 3) ∧ Hid (ReadsP w' (.slice a 3 3) W0) ∧ Hid (Kpt w w') := by
  have L := Lib.hid (lit3L w 45 (1, 10, 100) (2, 10, 300) (3, 7, 140) (inP_lots W0_ok))
  go_enter Try.func54, Try.ntmps54
  go_wp2
  go_ret
  exact ⟨_, rfl, L.out, (Kpt.refl _).alloc _⟩

/-- a sale that goes, of which the answer is known -/
theorem sell_known (v : Value) (l : List (Int × Int × Int)) (u k C : Int) (n : Nat) (R : List (Int × Int × Int)) (w : World) (hr : ReadsP w v l) (hE : lotsE l = 0) (k1 : 1 ≤ k) (k3 : k ≤ 3) (h1 : 1 ≤ u) (h2 : u ≤ unitsOf l) (hs : sellL (pickK k) l.length l u = (R, C)) (hn : R.length = n) (hb : InP R) :
    Calls Try.prog 26 #[v, .int .i64 u, .int .i64 k] w fun e w' => ∃ a cap, e = .returned (.tuple #[.slice a n cap, .int .i64 C, .int .i64 0]) ∧ Hid (ReadsP w' (.slice a n cap) R) ∧ Hid (Kpt w w') := by
  refine (sell_ok v l u k w hr hE k1 k3 h1 h2).mono ?_
  rintro e w' ⟨hk, blk, cap, rfl, ho⟩
  rw [hs] at ho ⊢
  simp only at ho ⊢
  rw [hn] at ho ⊢
  exact ⟨_, cap, rfl, ho.reads hb, hk⟩
theorem lb_1 (v : Value) (w : World) (h : ReadsP w v W0) : Calls Try.prog 26 #[v, .int .i64 12, .int .i64 1] w fun e w' => ∃ a cap, e = .returned (.tuple #[.slice a 2 cap, .int .i64 160, .int .i64 0]) ∧ Hid (ReadsP w' (.slice a 2 cap) [(2, 8, 240), (3, 7, 140)]) ∧ Hid (Kpt w w') :=
  sell_known v W0 12 1 160 2 _ w h (by decide) (by decide) (by decide) (by decide) (by decide) (by decide) rfl (inP_lots (by decide))
theorem lb_2 (v : Value) (w : World) (h : ReadsP w v W0) : Calls Try.prog 26 #[v, .int .i64 8, .int .i64 2] w fun e w' => ∃ a cap, e = .returned (.tuple #[.slice a 2 cap, .int .i64 170, .int .i64 0]) ∧ Hid (ReadsP w' (.slice a 2 cap) [(1, 10, 100), (2, 9, 270)]) ∧ Hid (Kpt w w') :=
  sell_known v W0 8 2 170 2 _ w h (by decide) (by decide) (by decide) (by decide) (by decide) (by decide) rfl (inP_lots (by decide))
theorem lb_3 (v : Value) (w : World) (h : ReadsP w v W0) : Calls Try.prog 26 #[v, .int .i64 3, .int .i64 3] w fun e w' => ∃ b off cap, e = .returned (.tuple #[.slice (some ⟨b, off, none⟩) 3 cap, .int .i64 90, .int .i64 0]) ∧ Hid (w'.cell? ⟨b, off + 5, none⟩ = some (.int .i64 210)) ∧ Hid (Kpt w w') := by
  refine (sell_known v W0 3 3 90 3 [(1, 10, 100), (2, 7, 210), (3, 7, 140)] w h (by decide) (by decide) (by decide) (by decide) (by decide) (by decide) rfl (inP_lots (by decide))).mono ?_
  rintro e w' ⟨a, cap, rfl, hr, hk⟩
  obtain ⟨a', c', e, -, -, -, hc⟩ := hr.out
  obtain ⟨b, off, rfl, h1, h2, h3⟩ := hc 1 (by decide)
  injection e with e1 e2 e3
  subst e1
  exact ⟨b, off, cap, rfl, h3, hk⟩
theorem lb_has (v : Value) (w : World) (h : ReadsP w v W0) : Calls Try.prog 27 #[v] w fun e w' => e = .returned (.tuple #[.int .i64 27, .int .i64 540, .int .i64 0]) ∧ Kpt w w' := by
  have := has_ok v W0 w h (by decide)
  rwa [show unitsOf W0 = 27 by decide, show costsOf W0 = 540 by decide] at this
theorem lb_buy (v : Value) (w : World) (h : ReadsP w v W0) : Calls Try.prog 25 #[v, .agg #[.int .i64 2, .int .i64 1, .int .i64 0]] w fun e w' => e = .returned (.tuple #[.slice none 0 0, .int .i64 4]) ∧ Kpt w w' := by
  refine (buy_any v W0 (2, 1, 0) w h (inP_lots (by decide))).mono ?_
  rintro e w' ⟨hk, ⟨_, rfl⟩ | ⟨h0, _⟩⟩
  · exact ⟨by rw [show lotsE (W0 ++ [(2, 1, 0)]) = 4 by decide], hk⟩
  · exact absurd h0 (by decide)
theorem lb_5 (v : Value) (w : World) (h : ReadsP w v W0) : Calls Try.prog 26 #[v, .int .i64 28, .int .i64 1] w fun e w' => e = .returned (.tuple #[.slice none 0 0, .int .i64 0, .int .i64 5]) ∧ Kpt w w' :=
  sell_e5 v W0 28 1 w h (by decide) (by decide) (by decide) (by decide) (by decide) (by decide)

set_option maxRecDepth 100000 in
set_option maxHeartbeats 4000000 in
theorem lotsBegun (w : World) : Calls Try.prog 31 #[] w fun e w' => e = .returned (.bool true) ∧ Kpt w w' := by
  have G := Lib.hid (Kpt.refl w)
  have R1 : Hid True := trivial
  have S5 : Hid True := trivial
  go_enter Try.func31, Try.ntmps31
  go_wp2_with (first
    | (go_at_call 54; (with_reducible refine (three_run _).mono ?_); rintro e wt ⟨at', rfl, HT, kt⟩; have G := Lib.hid (ktr G.out kt.out); (try have R1 := Lib.hid (ReadsP.kpt R1.out kt.out)); (try have S5 := Lib.hid (Kpt.cell kt.out S5.out)); clear kt)
    | (go_at_call 26; (with_reducible refine (lb_1 _ _ HT.out).mono ?_); rintro e w1 ⟨a1, c1, rfl, R1, k1⟩; have G := Lib.hid (ktr G.out k1.out); clear k1)
    | (go_at_call 26; (with_reducible refine (lb_2 _ _ HT.out).mono ?_); rintro e w2 ⟨a2, c2, rfl, _, k2⟩; have G := Lib.hid (ktr G.out k2.out); have R1 := Lib.hid (ReadsP.kpt R1.out k2.out); clear k2)
    | (go_at_call 26; (with_reducible refine (lb_3 _ _ HT.out).mono ?_); rintro e w3 ⟨b3, o3, c3, rfl, S5, k3⟩; have G := Lib.hid (ktr G.out k3.out); have R1 := Lib.hid (ReadsP.kpt R1.out k3.out); clear k3)
    | (go_at_call 27; (with_reducible refine (lb_has _ _ HT.out).mono ?_); rintro e w4 ⟨rfl, k4⟩; have G := Lib.hid (ktr G.out k4); have R1 := Lib.hid (ReadsP.kpt R1.out k4); have S5 := Lib.hid (Kpt.cell k4 S5.out); clear k4)
    | (go_at_call 25; (with_reducible refine (lb_buy _ _ HT.out).mono ?_); rintro e w5 ⟨rfl, k5⟩; have G := Lib.hid (ktr G.out k5); have R1 := Lib.hid (ReadsP.kpt R1.out k5); have S5 := Lib.hid (Kpt.cell k5 S5.out); clear k5)
    | (go_at_call 26; (with_reducible refine (lb_5 _ _ HT.out).mono ?_); rintro e w6 ⟨rfl, k6⟩; have G := Lib.hid (ktr G.out k6); have R1 := Lib.hid (ReadsP.kpt R1.out k6); have S5 := Lib.hid (Kpt.cell k6 S5.out); clear k6; have RL := Lib.hid (lit2L w6 45 (2, 8, 240) (3, 7, 140) (inP_lots (by decide))))
    | (go_at_call 33; (with_reducible refine (sameL_any _ _ [(2, 8, 240), (3, 7, 140)] _ (R1.out.kpt ((Kpt.refl _).alloc _)) RL.out).mono ?_); rintro e w7 ⟨rfl, k7⟩; have s7 := Kpt.cell k7 (Kpt.cell ((Kpt.refl _).alloc _) S5.out); have G := Lib.hid (ktr (G.out.alloc _) k7); clear k7))
  go_ret
  exact ⟨rfl, G.out⟩

end Go.Proofs.Ytbohdhiadgcljaa
