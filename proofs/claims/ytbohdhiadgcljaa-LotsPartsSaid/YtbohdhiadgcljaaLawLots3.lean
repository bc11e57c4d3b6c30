/-
  LotsParts: the walk.
-/
import Derived.Test.YtbohdhiadgcljaaLawLots2
namespace Go.Proofs.Ytbohdhiadgcljaa
open Go.RowKit
set_option linter.unusedVariables false

set_option maxHeartbeats 1000000 in
theorem lotsParts_bad (v : Value) (a b k : Int) (l : List (Int × Int × Int)) (w : World) (hr : ReadsP w v l) (h : sellE l a k ≠ 0) : Calls Try.prog 12 #[v, .int .i64 a, .int .i64 b, .int .i64 k] w fun e w' => e = .returned (.bool true) ∧ Kpt w w' := by
  have SF := Lib.hid (sell_fails v l a k w hr h)
  have q : (sellE l a k != 0) = true := bne_iff_ne.2 h
  clear h hr
  generalize sellE l a k = E at *
  go_enter Try.func12, Try.ntmps12
  go_wp2_with (first
    | (go_at_call 26; (with_reducible refine SF.out.mono ?_); rintro e w1 ⟨rfl, k1⟩)
    | (go_at_call 31; (with_reducible refine (lotsBegun _).mono ?_); rintro e w2 ⟨rfl, k2⟩; have K2 := Lib.hid (ktr k1.out k2); clear k2))
  go_ret
  exact ⟨rfl, K2.out⟩
set_option maxHeartbeats 1000000 in
theorem lotsParts_dear (v : Value) (a b : Int) (l : List (Int × Int × Int)) (w : World) (hr : ReadsP w v l) (h : sellE l a 3 = 0) : Calls Try.prog 12 #[v, .int .i64 a, .int .i64 b, .int .i64 3] w fun e w' => e = .returned (.bool true) ∧ Kpt w w' := by
  have SF := Lib.hid (sell_goes v l a 3 w hr h)
  clear h hr
  generalize (sellL (pickK 3) l.length l a).1 = R at *
  generalize (sellL (pickK 3) l.length l a).2 = C at *
  go_enter Try.func12, Try.ntmps12
  go_wp2_with (first
    | (go_at_call 26; (with_reducible refine SF.out.mono ?_); rintro e w1 ⟨x1, n1, y1, rfl, -, -, k1⟩)
    | (go_at_call 31; (with_reducible refine (lotsBegun _).mono ?_); rintro e w2 ⟨rfl, k2⟩; have K2 := Lib.hid (ktr k1.out k2); clear k2))
  go_ret
  exact ⟨rfl, K2.out⟩
set_option maxHeartbeats 1000000 in
theorem lotsParts_half (v : Value) (a b k : Int) (l : List (Int × Int × Int)) (w : World) (hr : ReadsP w v l) (h : sellE l a k = 0) (hk : k ≠ 3) (h2 : sellE (sellL (pickK k) l.length l a).1 b k ≠ 0) : Calls Try.prog 12 #[v, .int .i64 a, .int .i64 b, .int .i64 k] w fun e w' => e = .returned (.bool true) ∧ Kpt w w' := by
  have SF := Lib.hid (sell_goes v l a k w hr h)
  have S2 := Lib.hid (fun v w hr => sell_fails v _ b k w hr h2)
  have q : (sellE (sellL (pickK k) l.length l a).1 b k != 0) = true := bne_iff_ne.2 h2
  have q3 : (k == 3) = false := beq_eq_false_iff_ne.2 hk
  clear h hr h2 hk
  generalize (sellL (pickK k) l.length l a).1 = R at *
  generalize (sellL (pickK k) l.length l a).2 = C at *
  generalize sellE R b k = E at *
  go_enter Try.func12, Try.ntmps12
  go_wp2_with (first
    | (go_at_call 26; (with_reducible refine SF.out.mono ?_); rintro e w1 ⟨x1, n1, y1, rfl, -, R1, k1⟩)
    | (go_at_call 31; (with_reducible refine (lotsBegun _).mono ?_); rintro e w2 ⟨rfl, k2⟩; have K2 := Lib.hid (ktr k1.out k2); have R2 := Lib.hid (R1.out.kpt k2); clear k2)
    | (go_at_call 26; (with_reducible refine (S2.out _ _ R2.out).mono ?_); rintro e w3 ⟨rfl, k3⟩; have K3 := Lib.hid (ktr K2.out k3.out); clear k3))
  go_ret
  exact ⟨rfl, K3.out⟩

/-- the cells of a slice that reads as a list -/
theorem ReadsP.cells {w : World} {a : Option Addr} {n cap : Nat} {ps : List (Int × Int × Int)} (h : ReadsP w (.slice a n cap) ps) : n = ps.length ∧ ∀ j, j < ps.length → ∃ b off, a = some ⟨b, off, none⟩ ∧ PtAt w b (off + j * 3) (ps.getD j default) := by
  obtain ⟨a', c', e, -, -, -, hc⟩ := h
  injection e with e1 e2 e3
  subst e1
  exact ⟨e2, hc⟩

set_option maxRecDepth 100000 in
set_option maxHeartbeats 4000000 in
theorem lotsParts_ok (v : Value) (a b k : Int) (l : List (Int × Int × Int)) (w : World) (hr : ReadsP w v l) (h : sellE l a k = 0) (hk : k ≠ 3) (h2 : sellE (sellL (pickK k) l.length l a).1 b k = 0) : Calls Try.prog 12 #[v, .int .i64 a, .int .i64 b, .int .i64 k] w fun e w' => e = .returned (.bool true) ∧ Kpt w w' := by
  obtain ⟨hE, k1, k3, a1, a2⟩ := sellE_0 h
  obtain ⟨hE2, _, _, b1, b2⟩ := sellE_0 h2
  have KA := sell_kept k hE (by omega) a2
  have hU := KA.units
  have ub := units_bd (lots_0 hE).2.2
  have cb := costs_bd (lots_0 hE).2.2
  have hl40 := (lots_0 hE).1
  have cR := costs_bd (lots_0 hE2).2.2
  have KB := sell_kept k hE2 (by omega) b2
  have cRR := costs_bd (lots_0 KB.ok).2.2
  have hab : a + b ≤ unitsOf l := by omega
  have h3 : sellE l (a + b) k = 0 := by unfold sellE; rw [if_neg (by simpa using hE), if_neg (by omega), if_neg (by omega), if_neg (by omega)]
  have KZ := sell_kept k hE (u := a + b) (by omega) hab
  have cRZ := costs_bd (lots_0 KZ.ok).2.2
  obtain ⟨P1, P2, P3⟩ := parts_known k (by omega) hE (a := a) (b := b) (by omega) (by omega) hab
  have SF := Lib.hid (sell_goes v l a k w hr h)
  have S2 := Lib.hid (fun v w hr => sell_goes v _ b k w hr h2)
  have S3 := Lib.hid (fun w hr => sell_goes v l (a + b) k w hr h3)
  have RL := Lib.hid hr
  have q3 : (k == 3) = false := beq_eq_false_iff_ne.2 hk
  have c1 := KA.costs; have c2 := KB.costs; have c3 := KZ.costs
  have c4 := KA.c0; have c5 := KB.c0; have c6 := KZ.c0
  have ab : a + b ≤ 42949672960 := by omega
  have a3 : a ≤ 42949672960 := by omega
  have b3 : b ≤ 42949672960 := by omega
  have C1 : (sellL (pickK k) l.length l a).2 ≤ 171798691840 := by omega
  have C3 : (sellL (pickK k) l.length l (a + b)).2 ≤ 171798691840 := by omega
  have C2 : (sellL (pickK k) (sellL (pickK k) l.length l a).1.length (sellL (pickK k) l.length l a).1 b).2 ≤ 171798691840 := by omega
  clear h hr h2 hk h3 KA KB KZ hU ub cb cR cRR cRZ hE hE2 hab c1 c2 c3 a2 b2
  generalize (sellL (pickK k) (sellL (pickK k) l.length l a).1.length (sellL (pickK k) l.length l a).1 b).1 = Y at *
  generalize (sellL (pickK k) (sellL (pickK k) l.length l a).1.length (sellL (pickK k) l.length l a).1 b).2 = D at *
  generalize (sellL (pickK k) l.length l (a + b)).1 = Z at *
  generalize (sellL (pickK k) l.length l (a + b)).2 = G at *
  generalize (sellL (pickK k) l.length l a).1 = R at *
  generalize (sellL (pickK k) l.length l a).2 = C at *
  have SL := Lib.hid (shape_len P1)
  have SH := Lib.hid (shape_at P1)
  clear P1
  go_enter Try.func12, Try.ntmps12
  go_wp2_with (first
    | (go_at_call 26; (with_reducible refine SF.out.mono ?_); rintro e w1 ⟨x1, n1, y1, rfl, -, R1, k1⟩)
    | (go_at_call 31; (with_reducible refine (lotsBegun _).mono ?_); rintro e w2 ⟨rfl, k2⟩; have K2 := Lib.hid (ktr k1.out k2); have R2 := Lib.hid (R1.out.kpt k2); clear k2)
    | (go_at_call 26; (with_reducible refine (S2.out _ _ R2.out).mono ?_); rintro e w3 ⟨x3, n3, y3, rfl, N3, R3, k3⟩; have K3 := Lib.hid (ktr K2.out k3.out); clear k3)
    | (go_at_call 26; (with_reducible refine (S3.out _ (RL.out.kpt K3.out)).mono ?_); rintro e w4 ⟨x4, n4, y4, rfl, N4, R4, k4⟩; have K4 := Lib.hid (ktr K3.out k4.out); have R5 := Lib.hid (R3.out.kpt k4.out); clear k4; have e34 : n4 = n3 := (by rw [N4.out, N3.out, SL.out]); subst e34))
  have n40 : n4 ≤ 9223372036854775807 := by have := R4.out.len; have := N4.out; unfold maxLen at *; omega
  go_loopw [18] (fun i wr => ∃ j : Nat, j ≤ n4 ∧ i = .int .i64 j ∧ Hid (Kpt w4 wr)) (fun i _ => n4 - (intOf i).toNat)
  case atStart => exact ⟨0, Nat.zero_le _, rfl, Kpt.refl _⟩
  case round =>
    obtain ⟨j, hj, rfl, HK⟩ := hrel
    by_cases hlt : j < n4
    · have hy : j < Y.length := by rw [← N3.out]; exact hlt
      have hz : j < Z.length := by rw [← N4.out]; exact hlt
      obtain ⟨bb, off, rfl, hp⟩ := R5.out.cells.2 j hy
      obtain ⟨b', off', rfl, hq⟩ := R4.out.cells.2 j hz
      obtain ⟨c0, c1, c2⟩ := hp.kpt HK.out
      obtain ⟨d0, d1, d2⟩ := hq.kpt HK.out
      have hs := SH.out j hy
      clear hp hq
      generalize Y.getD j default = p at c0 c1 c2 hs
      generalize Z.getD j default = q at d0 d1 d2 hs
      obtain ⟨p0, p1, p2⟩ := p
      obtain ⟨q0, q1, q2⟩ := q
      simp only at c0 c1 c2 d0 d1 d2 hs
      obtain ⟨rfl, rfl⟩ := hs
      have z1 : (p1 != p1) = false := by simp
      have z0 : (p0 != p0) = false := by simp
      have j0 : (0 : Int) ≤ (j : Int) := by omega
      have j1 : (j : Int) < (n4 : Int) := by omega
      go_wp2
      go_quiet (fail)
      go_wp2
      go_roundw
      case rel => exact ⟨j + 1, by omega, by go_num, HK.out.drewN _⟩
      case measure => simp [intOf]; omega
    · have g1 : C + D ≤ G := P2
      have g2 : G - C - D ≤ 1 := P3
      go_wp2
      go_ret
      exact ⟨rfl, ktr K4.out HK.out⟩
theorem lotsParts_walk (v : Value) (a b k : Int) (l : List (Int × Int × Int)) (w : World) (hr : ReadsP w v l) : Calls Try.prog 12 #[v, .int .i64 a, .int .i64 b, .int .i64 k] w fun e w' => e = .returned (.bool true) ∧ Kpt w w' := by
  by_cases h : sellE l a k = 0
  · by_cases hk : k = 3
    · subst hk; exact lotsParts_dear v a b l w hr h
    · by_cases h2 : sellE (sellL (pickK k) l.length l a).1 b k = 0
      · exact lotsParts_ok v a b k l w hr h hk h2
      · exact lotsParts_half v a b k l w hr h hk h2
  · exact lotsParts_bad v a b k l w hr h

end Go.Proofs.Ytbohdhiadgcljaa
