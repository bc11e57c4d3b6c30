/-
  LotsKeep, LotsBack, LotsAll: the walks.
-/
import Derived.Test.YtbohdhiadgcljaaLotF
import Derived.Test.YtbohdhiadgcljaaLotG
namespace Go.Proofs.Ytbohdhiadgcljaa
open Go.RowKit
set_option linter.unusedVariables false

theorem sell_fails (v : Value) (l : List (Int × Int × Int)) (u k : Int) (w : World) (hr : ReadsP w v l) (h : sellE l u k ≠ 0) : Calls Try.prog 26 #[v, .int .i64 u, .int .i64 k] w fun e w' => e = .returned (.tuple #[.slice none 0 0, .int .i64 0, .int .i64 (sellE l u k)]) ∧ Hid (Kpt w w') := by
  refine (sell_any v l u k w hr).mono ?_
  rintro e w' (⟨_, hk, rfl⟩ | ⟨h0, _⟩)
  · exact ⟨rfl, hk⟩
  · exact absurd h0 h
theorem sellE_0 {l : List (Int × Int × Int)} {u k : Int} (h : sellE l u k = 0) : lotsE l = 0 ∧ 1 ≤ k ∧ k ≤ 3 ∧ 1 ≤ u ∧ u ≤ unitsOf l := by
  unfold sellE at h
  split at h
  · next h1 => exact absurd h h1
  · next h1 =>
    split at h
    · omega
    · split at h
      · omega
      · split at h
        · omega
        · exact ⟨by simpa using h1, by omega, by omega, by omega, by omega⟩
theorem sell_goes (v : Value) (l : List (Int × Int × Int)) (u k : Int) (w : World) (hr : ReadsP w v l) (h : sellE l u k = 0) : Calls Try.prog 26 #[v, .int .i64 u, .int .i64 k] w fun e w' => ∃ a n cap, e = .returned (.tuple #[.slice a n cap, .int .i64 (sellL (pickK k) l.length l u).2, .int .i64 0]) ∧ Hid (n = (sellL (pickK k) l.length l u).1.length) ∧ Hid (ReadsP w' (.slice a n cap) (sellL (pickK k) l.length l u).1) ∧ Hid (Kpt w w') := by
  obtain ⟨h1, h2, h3, h4, h5⟩ := sellE_0 h
  refine (sell_any v l u k w hr).mono ?_
  rintro e w' (⟨h0, _⟩ | ⟨_, hk, blk, cap, rfl, ho⟩)
  · exact absurd h h0
  · exact ⟨_, _, cap, rfl, rfl, ho.reads (inP_lots (lots_0 (sell_kept k h1 (by omega) h5).ok).2.2), hk⟩

set_option maxHeartbeats 1000000 in
theorem lotsKeep_bad (v : Value) (u k : Int) (l : List (Int × Int × Int)) (w : World) (hr : ReadsP w v l) (h : sellE l u k ≠ 0) : Calls Try.prog 10 #[v, .int .i64 u, .int .i64 k] w fun e w' => e = .returned (.bool true) ∧ Kpt w w' := by
  have SF := Lib.hid (sell_fails v l u k w hr h)
  have q : (sellE l u k != 0) = true := bne_iff_ne.2 h
  clear h hr
  generalize sellE l u k = E at *
  go_enter Try.func10, Try.ntmps10
  go_wp2_with (first
    | (go_at_call 26; (with_reducible refine SF.out.mono ?_); rintro e w1 ⟨rfl, k1⟩)
    | (go_at_call 31; (with_reducible refine (lotsBegun _).mono ?_); rintro e w2 ⟨rfl, k2⟩; have K2 := Lib.hid (ktr k1.out k2); clear k2))
  go_ret
  exact ⟨rfl, K2.out⟩

set_option maxRecDepth 100000 in
set_option maxHeartbeats 2000000 in
theorem lotsKeep_ok (v : Value) (u k : Int) (l : List (Int × Int × Int)) (w : World) (hr : ReadsP w v l) (h : sellE l u k = 0) : Calls Try.prog 10 #[v, .int .i64 u, .int .i64 k] w fun e w' => e = .returned (.bool true) ∧ Kpt w w' := by
  obtain ⟨hE, h2, h3, h4, h5⟩ := sellE_0 h
  have SF := sell_goes v l u k w hr h
  have K := sell_kept k hE (by omega) h5
  have RL := Lib.hid hr
  have H1 := Lib.hid (fun w hr => has_ok v l w hr hE)
  obtain ⟨a0, c0, rfl, -⟩ := id hr
  have hlb := (lots_0 hE).1
  have hB := (lots_0 hE).2.2
  have ub := (units_bd hB).2
  have cb := (costs_bd hB).2
  clear hr h hE h2 h3 hB
  generalize (sellL (pickK k) l.length l u).1 = R at *
  generalize (sellL (pickK k) l.length l u).2 = C at *
  have H2 := Lib.hid (fun v w hr => has_ok v R w hr K.ok)
  have KU := K.units; have KC := K.costs; have C0 := K.c0
  have rb := units_bd (lots_0 K.ok).2.2
  have rc := costs_bd (lots_0 K.ok).2.2
  have KL := Lib.hid K.len
  have rl := K.len
  clear K
  generalize unitsOf R = ur at *
  generalize costsOf R = cr at *
  generalize unitsOf l = ul at *
  generalize costsOf l = cl at *
  have e1 : (ul == ur + u) = true := beq_iff_eq.2 KU
  have e2 : (cl == cr + C) = true := beq_iff_eq.2 KC
  have b1 : ul ≤ 42949672960 := by omega
  have b2 : cl ≤ 171798691840 := by omega
  have b3 : 0 ≤ ur := by omega
  have b4 : 0 ≤ cr := by omega
  have b5 : ur + u ≤ 42949672960 := by omega
  have b6 : cr + C ≤ 171798691840 := by omega
  have SF2 := Lib.hid SF
  have E1 := Lib.hid KU; have E2 := Lib.hid KC
  clear SF KU KC ub cb rb rc
  go_enter Try.func10, Try.ntmps10
  go_wp2_with (first
    | (go_at_call 26; (with_reducible refine SF2.out.mono ?_); rintro e w1 ⟨a1, n1, c1, rfl, N1, R1, K1⟩; have n1l : n1 ≤ l.length := (by rw [N1.out]; exact rl); have n1i : (n1 : Int) ≤ (l.length : Int) := (by omega))
    | (go_at_call 31; (with_reducible refine (lotsBegun _).mono ?_); rintro e w2 ⟨rfl, k2⟩; have K2 := Lib.hid (ktr K1.out k2); have R2 := Lib.hid (R1.out.kpt k2); clear k2)
    | (go_at_call 27; (with_reducible refine (H1.out _ (RL.out.kpt K2.out)).mono ?_); rintro e w3 ⟨rfl, k3⟩; have K3 := Lib.hid (ktr K2.out k3); have R3 := Lib.hid (R2.out.kpt k3); clear k3)
    | (go_at_call 27; (with_reducible refine (H2.out _ _ R3.out).mono ?_); rintro e w4 ⟨rfl, k4⟩; have K4 := Lib.hid (ktr K3.out k4); clear k4))
  go_ret
  exact ⟨rfl, K4.out⟩
theorem lotsKeep_walk (v : Value) (u k : Int) (l : List (Int × Int × Int)) (w : World) (hr : ReadsP w v l) : Calls Try.prog 10 #[v, .int .i64 u, .int .i64 k] w fun e w' => e = .returned (.bool true) ∧ Kpt w w' := by
  by_cases h : sellE l u k = 0
  · exact lotsKeep_ok v u k l w hr h
  · exact lotsKeep_bad v u k l w hr h

set_option maxRecDepth 100000 in
set_option maxHeartbeats 2000000 in
theorem lotsBack_walk (v : Value) (d u c : Int) (l : List (Int × Int × Int)) (w : World) (hr : ReadsP w v l) (hw : (-9223372036854775808 ≤ d ∧ d ≤ 9223372036854775807) ∧ (-9223372036854775808 ≤ u ∧ u ≤ 9223372036854775807) ∧ -9223372036854775808 ≤ c ∧ c ≤ 9223372036854775807) :
    Calls Try.prog 11 #[v, .agg #[.int .i64 d, .int .i64 u, .int .i64 c]] w fun e w' => e = .returned (.bool true) ∧ Kpt w w' := by
  have hq : InP [(d, u, c)] := fun p hp => by rw [List.mem_singleton.1 hp]; exact hw
  have RL := Lib.hid hr
  have BU := Lib.hid (fun w hr => buy_any v l (d, u, c) w hr hq)
  have HI : Hid (InP (l ++ [(d, u, c)])) := fun p hp => by
    rcases List.mem_append.1 hp with h | h
    · exact hr.fits p h
    · exact hq p h
  clear hr hq
  by_cases h : lotsE (l ++ [(d, u, c)]) = 0
  · have hq := lot_t ((lots_0 h).2.2 (d, u, c) (by simp))
    have SB := Lib.hid (sell_back h)
    have SE : Hid (sellE (l ++ [(d, u, c)]) u 2 = 0) := by
      unfold Hid sellE
      simp only at hq
      have h1 := (units_bd (l := l) fun p hp => (lots_0 h).2.2 p (by simp [hp])).1
      rw [if_neg (by simpa using h), if_neg (by decide), if_neg (by omega), if_neg]
      rw [units_append]
      simp only [unitsOf]
      omega
    have BG : Hid (∀ w, ReadsP w v l → Calls Try.prog 25 #[v, .agg #[.int .i64 d, .int .i64 u, .int .i64 c]] w fun e w' => ∃ a n cap, e = .returned (.tuple #[.slice a n cap, .int .i64 0]) ∧ Hid (ReadsP w' (.slice a n cap) (l ++ [(d, u, c)])) ∧ Hid (Kpt w w')) := fun w hr => by
      refine (BU.out w hr).mono ?_
      rintro e w' ⟨hk, ⟨h1, _⟩ | ⟨_, a, cap, rfl, ho⟩⟩
      · exact absurd h h1
      · exact ⟨a, _, cap, rfl, ho.reads HI.out, hk⟩
    have SG : Hid (∀ v w, ReadsP w v (l ++ [(d, u, c)]) → Calls Try.prog 26 #[v, .int .i64 u, .int .i64 2] w fun e w' => ∃ a n cap, e = .returned (.tuple #[.slice a n cap, .int .i64 c, .int .i64 0]) ∧ Hid (ReadsP w' (.slice a n cap) l) ∧ Hid (Kpt w w')) := fun v w hr => by
      refine (sell_goes v _ u 2 w hr SE.out).mono ?_
      rintro e w' ⟨a, n, cap, rfl, _, h2, h3⟩
      have e := SB.out
      simp only at e
      rw [e] at h2 ⊢
      exact ⟨a, n, cap, rfl, h2, h3⟩
    clear BU h hq hw
    go_enter Try.func11, Try.ntmps11
    have B0 := Lib.hid (Blk.made w #[.int .i64 d, .int .i64 u, .int .i64 c] 45)
    go_wp2_with (first
      | (go_at_call 25; (with_reducible refine (BG.out _ (RL.out.kpt ((Kpt.refl _).alloc _))).mono ?_); rintro e w1 ⟨a1, n1, c1, rfl, R1, k1⟩; have K1 := Lib.hid (ktr ((Kpt.refl w).alloc _) k1.out); have B1 := Lib.hid (B0.out.kpt k1.out); clear k1)
      | (go_at_call 31; (with_reducible refine (lotsBegun _).mono ?_); rintro e w2 ⟨rfl, k2⟩; have K2 := Lib.hid (ktr K1.out k2); have R2 := Lib.hid (R1.out.kpt k2); have B2 := Lib.hid (B1.out.kpt k2); have z1 : w2.cell? ⟨w.heap.size, 1, none⟩ = some (.int .i64 u) := B2.out.cell 1; clear k2)
      | (go_at_call 26; (with_reducible refine (SG.out _ _ R2.out).mono ?_); rintro e w3 ⟨a3, n3, c3, rfl, R3, k3⟩; have K3 := Lib.hid (ktr K2.out k3.out); have B3 := Lib.hid (B2.out.kpt k3.out); have z2 : w3.cell? ⟨w.heap.size, 2, none⟩ = some (.int .i64 c) := B3.out.cell 2; clear k3)
      | (go_at_call 33; (with_reducible refine (sameL_any _ _ l _ R3.out (RL.out.kpt K3.out)).mono ?_); rintro e w4 ⟨rfl, k4⟩; have K4 := Lib.hid (ktr K3.out k4); clear k4))
    go_ret
    exact ⟨rfl, K4.out⟩
  · have BG : Hid (∀ w, ReadsP w v l → Calls Try.prog 25 #[v, .agg #[.int .i64 d, .int .i64 u, .int .i64 c]] w fun e w' => e = .returned (.tuple #[.slice none 0 0, .int .i64 (lotsE (l ++ [(d, u, c)]))]) ∧ Hid (Kpt w w')) := fun w hr => by
      refine (BU.out w hr).mono ?_
      rintro e w' ⟨hk, ⟨_, rfl⟩ | ⟨h1, _⟩⟩
      · exact ⟨rfl, hk⟩
      · exact absurd h1 h
    have q : (lotsE (l ++ [(d, u, c)]) != 0) = true := bne_iff_ne.2 h
    clear BU h hw HI
    generalize lotsE (l ++ [(d, u, c)]) = E at *
    go_enter Try.func11, Try.ntmps11
    go_wp2_with (first
      | (go_at_call 25; (with_reducible refine (BG.out _ (RL.out.kpt ((Kpt.refl _).alloc _))).mono ?_); rintro e w1 ⟨rfl, k1⟩; have K1 := Lib.hid (ktr ((Kpt.refl w).alloc _) k1.out); clear k1)
      | (go_at_call 31; (with_reducible refine (lotsBegun _).mono ?_); rintro e w2 ⟨rfl, k2⟩; have K2 := Lib.hid (ktr K1.out k2); clear k2))
    go_ret
    exact ⟨rfl, K2.out⟩

end Go.Proofs.Ytbohdhiadgcljaa
