/-
  LotsDear, LotsAll, LotsParts: the walks.
-/
import Derived.Test.YtbohdhiadgcljaaLawLots
import Derived.Test.YtbohdhiadgcljaaLotI
namespace Go.Proofs.Ytbohdhiadgcljaa
open Go.RowKit
set_option linter.unusedVariables false

theorem sellE_kind (l : List (Int × Int × Int)) (u k : Int) (h1 : 1 ≤ k) (h3 : k ≤ 3) : sellE l u k = sellE l u 1 := by
  unfold sellE
  have e : (k < 1 ∨ 3 < k) = False := by simp; omega
  have e' : ((1 : Int) < 1 ∨ (3 : Int) < 1) = False := by simp
  simp only [e, e', if_false]

set_option maxHeartbeats 1000000 in
theorem lotsDear_bad (v : Value) (u : Int) (l : List (Int × Int × Int)) (w : World) (hr : ReadsP w v l) (h : sellE l u 1 ≠ 0) : Calls Try.prog 13 #[v, .int .i64 u] w fun e w' => e = .returned (.bool true) ∧ Kpt w w' := by
  have RL := Lib.hid hr
  have S3 : Hid (∀ w, ReadsP w v l → Calls Try.prog 26 #[v, .int .i64 u, .int .i64 3] w fun e w' => e = .returned (.tuple #[.slice none 0 0, .int .i64 0, .int .i64 (sellE l u 1)]) ∧ Hid (Kpt w w')) := fun w hr => by
    have := sell_fails v l u 3 w hr (by rw [sellE_kind l u 3 (by decide) (by decide)]; exact h)
    rwa [sellE_kind l u 3 (by decide) (by decide)] at this
  have S2 : Hid (∀ w, ReadsP w v l → Calls Try.prog 26 #[v, .int .i64 u, .int .i64 2] w fun e w' => e = .returned (.tuple #[.slice none 0 0, .int .i64 0, .int .i64 (sellE l u 1)]) ∧ Hid (Kpt w w')) := fun w hr => by
    have := sell_fails v l u 2 w hr (by rw [sellE_kind l u 2 (by decide) (by decide)]; exact h)
    rwa [sellE_kind l u 2 (by decide) (by decide)] at this
  have S1 := Lib.hid (fun w hr => sell_fails v l u 1 w hr h)
  have q : (sellE l u 1 != 0) = true := bne_iff_ne.2 h
  clear h hr
  generalize sellE l u 1 = E at *
  go_enter Try.func13, Try.ntmps13
  go_wp2_with (first
    | (go_at_call 26; (with_reducible refine (S3.out _ RL.out).mono ?_); rintro e w1 ⟨rfl, K1⟩)
    | (go_at_call 26; (with_reducible refine (S1.out _ (RL.out.kpt K1.out)).mono ?_); rintro e w2 ⟨rfl, k2⟩; have K2 := Lib.hid (ktr K1.out k2.out); clear k2)
    | (go_at_call 26; (with_reducible refine (S2.out _ (RL.out.kpt K2.out)).mono ?_); rintro e w3 ⟨rfl, k3⟩; have K3 := Lib.hid (ktr K2.out k3.out); clear k3)
    | (go_at_call 31; (with_reducible refine (lotsBegun _).mono ?_); rintro e w4 ⟨rfl, k4⟩; have K4 := Lib.hid (ktr K3.out k4); clear k4))
  go_ret
  exact ⟨rfl, K4.out⟩
set_option maxHeartbeats 1000000 in
theorem lotsDear_ok (v : Value) (u : Int) (l : List (Int × Int × Int)) (w : World) (hr : ReadsP w v l) (h : sellE l u 1 = 0) : Calls Try.prog 13 #[v, .int .i64 u] w fun e w' => e = .returned (.bool true) ∧ Kpt w w' := by
  have RL := Lib.hid hr
  obtain ⟨hE, _, _, h4, h5⟩ := sellE_0 h
  have S3 := Lib.hid (fun w hr => sell_goes v l u 3 w hr (by rw [sellE_kind l u 3 (by decide) (by decide)]; exact h))
  have S2 := Lib.hid (fun w hr => sell_goes v l u 2 w hr (by rw [sellE_kind l u 2 (by decide) (by decide)]; exact h))
  have S1 := Lib.hid (fun w hr => sell_goes v l u 1 w hr h)
  have d1 := sell_dear 1 hE (by omega) h5
  have d2 := sell_dear 2 hE (by omega) h5
  clear h hr hE
  generalize (sellL (pickK 3) l.length l u).1 = R3 at *
  generalize (sellL (pickK 2) l.length l u).1 = R2 at *
  generalize (sellL (pickK 1) l.length l u).1 = R1 at *
  generalize (sellL (pickK 3) l.length l u).2 = C3 at *
  generalize (sellL (pickK 2) l.length l u).2 = C2 at *
  generalize (sellL (pickK 1) l.length l u).2 = C1 at *
  go_enter Try.func13, Try.ntmps13
  go_wp2_with (first
    | (go_at_call 26; (with_reducible refine (S3.out _ RL.out).mono ?_); rintro e w1 ⟨x1, n1, y1, rfl, -, -, K1⟩)
    | (go_at_call 26; (with_reducible refine (S1.out _ (RL.out.kpt K1.out)).mono ?_); rintro e w2 ⟨x2, n2, y2, rfl, -, -, k2⟩; have K2 := Lib.hid (ktr K1.out k2.out); clear k2)
    | (go_at_call 26; (with_reducible refine (S2.out _ (RL.out.kpt K2.out)).mono ?_); rintro e w3 ⟨x3, n3, y3, rfl, -, -, k3⟩; have K3 := Lib.hid (ktr K2.out k3.out); clear k3)
    | (go_at_call 31; (with_reducible refine (lotsBegun _).mono ?_); rintro e w4 ⟨rfl, k4⟩; have K4 := Lib.hid (ktr K3.out k4); clear k4))
  go_ret
  exact ⟨rfl, K4.out⟩
theorem lotsDear_walk (v : Value) (u : Int) (l : List (Int × Int × Int)) (w : World) (hr : ReadsP w v l) : Calls Try.prog 13 #[v, .int .i64 u] w fun e w' => e = .returned (.bool true) ∧ Kpt w w' := by
  by_cases h : sellE l u 1 = 0
  · exact lotsDear_ok v u l w hr h
  · exact lotsDear_bad v u l w hr h

theorem lotsAll_bad (v : Value) (u : Int) (l : List (Int × Int × Int)) (w : World) (hr : ReadsP w v l) (h : lotsE l ≠ 0) : Calls Try.prog 14 #[v, .int .i64 u] w fun e w' => e = .returned (.bool true) ∧ Kpt w w' := by
  have RL := Lib.hid hr
  have HN := Lib.hid (fun w hr => has_no v l w hr h)
  have q : (lotsE l != 0) = true := bne_iff_ne.2 h
  have q2 : (lotsE l == 0) = false := beq_eq_false_iff_ne.2 h
  clear h hr
  generalize lotsE l = E at *
  go_enter Try.func14, Try.ntmps14
  go_wp2_with (first
    | (go_at_call 31; (with_reducible refine (lotsBegun _).mono ?_); rintro e w1 ⟨rfl, k1⟩; have K1 := Lib.hid k1; clear k1)
    | (go_at_call 27; (with_reducible refine (HN.out _ (RL.out.kpt K1.out)).mono ?_); rintro e w2 ⟨rfl, k2⟩; have K2 := Lib.hid (ktr K1.out k2); clear k2))
  go_ret
  exact ⟨rfl, K2.out⟩
theorem lotsAll_none (v : Value) (u : Int) (w : World) (hr : ReadsP w v []) : Calls Try.prog 14 #[v, .int .i64 u] w fun e w' => e = .returned (.bool true) ∧ Kpt w w' := by
  have RL := Lib.hid hr
  have HN : Hid (∀ w, ReadsP w v [] → Calls Try.prog 27 #[v] w fun e w' => e = .returned (.tuple #[.int .i64 0, .int .i64 0, .int .i64 0]) ∧ Kpt w w') := fun w hr => has_ok v [] w hr (by decide)
  clear hr
  go_enter Try.func14, Try.ntmps14
  go_wp2_with (first
    | (go_at_call 31; (with_reducible refine (lotsBegun _).mono ?_); rintro e w1 ⟨rfl, k1⟩; have K1 := Lib.hid k1; clear k1)
    | (go_at_call 27; (with_reducible refine (HN.out _ (RL.out.kpt K1.out)).mono ?_); rintro e w2 ⟨rfl, k2⟩; have K2 := Lib.hid (ktr K1.out k2); clear k2))
  go_ret
  exact ⟨rfl, K2.out⟩

theorem ReadsP.first {w : World} {a : Option Addr} {n cap : Nat} {p : Int × Int × Int} {r : List (Int × Int × Int)} (h : ReadsP w (.slice a n cap) (p :: r)) : ReadsP w (.slice a 1 cap) [p] := h.take 1 (by simp)
/-- a sale of one lot alone, whichever way -/
def OneRes (w : World) (p : Int × Int × Int) (u : Int) (e : Ending) (w' : World) : Prop :=
  Hid (Kpt w w') ∧ ∃ a n cap, e = .returned (.tuple #[.slice a n cap, .int .i64 (if sellE [p] u 1 = 0 then (sellL (pickK 1) 1 [p] u).2 else 0), .int .i64 (sellE [p] u 1)]) ∧ Hid (ReadsP w' (.slice a n cap) (if sellE [p] u 1 = 0 then (sellL (pickK 1) 1 [p] u).1 else []))
theorem sell_single (v : Value) (p : Int × Int × Int) (u k : Int) (w : World) (hr : ReadsP w v [p]) (h1 : 1 ≤ k) (h3 : k ≤ 3) : Calls Try.prog 26 #[v, .int .i64 u, .int .i64 k] w (OneRes w p u) := by
  have ek := sellE_kind [p] u k h1 h3
  by_cases h : sellE [p] u 1 = 0
  · refine (sell_goes v [p] u k w hr (by rw [ek]; exact h)).mono ?_
    rintro e w' ⟨a, n, cap, rfl, _, h2, h3⟩
    have e1 : sellL (pickK k) [p].length [p] u = sellL (pickK 1) 1 [p] u := sell_one k p u
    rw [e1] at h2 ⊢
    exact ⟨h3, a, n, cap, by rw [if_pos h, h], by rw [if_pos h]; exact h2⟩
  · refine (sell_fails v [p] u k w hr (by rw [ek]; exact h)).mono ?_
    rintro e w' ⟨rfl, h3⟩
    exact ⟨h3, none, 0, 0, by rw [if_neg h, ek], by rw [if_neg h]; exact readsP_nil _ _ _ fun _ => rfl⟩

set_option maxRecDepth 100000 in
set_option maxHeartbeats 4000000 in
theorem lotsAll_some (v : Value) (u : Int) (p : Int × Int × Int) (r : List (Int × Int × Int)) (w : World) (hr : ReadsP w v (p :: r)) (hc : ∃ a n cap, v = .slice a n cap ∧ n ≤ cap ∧ cap ≤ maxLen) (h : lotsE (p :: r) = 0) : Calls Try.prog 14 #[v, .int .i64 u] w fun e w' => e = .returned (.bool true) ∧ Kpt w w' := by
  have RL := Lib.hid hr
  have HN := Lib.hid (fun w hr => has_ok v (p :: r) w hr h)
  obtain ⟨a0, n0, c0, rfl, hcap, hmax⟩ := hc
  obtain ⟨a', c', e, -⟩ := id hr
  injection e with e1 e2 e3
  have n1 : 1 ≤ n0 := by rw [e2]; simp
  have n2 : 1 ≤ c0 := by omega
  unfold maxLen at hmax
  have hB := (lots_0 h).2.2
  have ub := units_bd hB
  have ul := (lots_0 h).1
  have hU1 : 1 ≤ unitsOf (p :: r) := by have := ub.1; simp at this ul; omega
  have SE : ∀ k : Int, 1 ≤ k → k ≤ 3 → sellE (p :: r) (unitsOf (p :: r)) k = 0 := fun k k1 k3 => by
    unfold sellE
    rw [if_neg (by simpa using h), if_neg (by omega), if_neg (by omega), if_neg (by omega)]
  have SA : Hid (∀ (k : Int) w, 1 ≤ k → k ≤ 3 → ReadsP w (.slice a0 n0 c0) (p :: r) → Calls Try.prog 26 #[.slice a0 n0 c0, .int .i64 (unitsOf (p :: r)), .int .i64 k] w fun e w' => ∃ a cap, e = .returned (.tuple #[.slice a 0 cap, .int .i64 (costsOf (p :: r)), .int .i64 0]) ∧ Hid (Kpt w w')) := fun k w k1 k3 hr => by
    refine (sell_goes _ (p :: r) _ k w hr (SE k k1 k3)).mono ?_
    rintro e w' ⟨a, n, cap, rfl, hn, h2, h3⟩
    have e := sell_all k h
    have hn' := hn.out
    rw [e] at hn' ⊢
    obtain rfl : n = 0 := hn'
    exact ⟨a, cap, rfl, h3⟩
  have SO := Lib.hid (fun (k : Int) w hr h1 h3 => sell_single (.slice a0 1 c0) p u k w hr h1 h3)
  have q1 : (unitsOf (p :: r) == 0) = false := beq_eq_false_iff_ne.2 (by omega)
  clear hr h hB ub ul SE e1 e2 e3 hcap
  generalize unitsOf (p :: r) = us at *
  generalize costsOf (p :: r) = cs at *
  go_enter Try.func14, Try.ntmps14
  go_wp2_with (first
    | (go_at_call 31; (with_reducible refine (lotsBegun _).mono ?_); rintro e w1 ⟨rfl, k1⟩; have K1 := Lib.hid k1; clear k1)
    | (go_at_call 27; (with_reducible refine (HN.out _ (RL.out.kpt K1.out)).mono ?_); rintro e w2 ⟨rfl, k2⟩; have K2 := Lib.hid (ktr K1.out k2); clear k2))
  go_loopw [8] (fun i wr => ∃ k : Nat, 1 ≤ k ∧ k ≤ 4 ∧ i = .int .i64 k ∧ Hid (Kpt w wr)) (fun i _ => 4 - (intOf i).toNat)
  case atStart => exact ⟨1, Nat.le_refl _, by omega, rfl, K2.out⟩
  case round =>
    obtain ⟨k, hk1, hk4, rfl, HK⟩ := hrel
    by_cases hk3 : k ≤ 3
    · have k1 : (1 : Int) ≤ (k : Int) := by omega
      have k3 : (k : Int) ≤ 3 := by omega
      go_wp2_with (first
        | (go_at_call 26; (with_reducible refine (SA.out _ _ k1 k3 (RL.out.kpt HK.out)).mono ?_); rintro e w3 ⟨a3, c3, rfl, k3'⟩; have K3 := Lib.hid (ktr HK.out k3'.out); clear k3')
        | (go_at_call 26; (with_reducible refine (SO.out (k : Int) _ (RL.out.kpt K3.out).first k1 k3).mono ?_); rintro e w4 ⟨k4, a4, n4, c4, rfl, R4⟩; have K4 := Lib.hid (ktr K3.out k4.out); clear k4)
        | (go_at_call 26; (with_reducible refine (SO.out 1 _ (RL.out.kpt K4.out).first (by decide) (by decide)).mono ?_); rintro e w5 ⟨k5, a5, n5, c5, rfl, R5⟩; have K5 := Lib.hid (ktr K4.out k5.out); have R6 := Lib.hid (R4.out.kpt k5.out); clear k5)
        | (go_at_call 33; (with_reducible refine (sameL_any _ _ _ _ R6.out R5.out).mono ?_); rintro e w6 ⟨rfl, k6⟩; have K6 := Lib.hid (ktr K5.out k6); clear k6))
      go_roundw
      case rel => exact ⟨k + 1, by omega, by omega, by go_num, K6.out⟩
      case measure => simp [intOf]; omega
    · go_wp2
      go_ret
      exact ⟨rfl, HK.out⟩
theorem lotsAll_walk (v : Value) (u : Int) (l : List (Int × Int × Int)) (w : World) (hr : ReadsP w v l) (hc : ∃ a n cap, v = .slice a n cap ∧ n ≤ cap ∧ cap ≤ maxLen) : Calls Try.prog 14 #[v, .int .i64 u] w fun e w' => e = .returned (.bool true) ∧ Kpt w w' := by
  by_cases h : lotsE l = 0
  · cases l with
    | nil => exact lotsAll_none v u w hr
    | cons p r => exact lotsAll_some v u p r w hr hc h
  · exact lotsAll_bad v u l w hr h


theorem pick_set (k : Int) (hk : k = 1 ∨ k = 2) (l : List (Int × Int × Int)) (i : Nat) (q : Int × Int × Int) : pickK k (l.set i q) = pickK k l := by
  rcases hk with rfl | rfl
  · unfold pickK; rw [if_pos rfl, if_pos rfl]
  · unfold pickK; rw [if_neg (by decide), if_pos rfl, if_neg (by decide), if_pos rfl, List.length_set]
theorem parts_known (k : Int) (hk : k = 1 ∨ k = 2) {l : List (Int × Int × Int)} {a b : Int} (h : lotsE l = 0) (ha : 0 ≤ a) (hb : 0 ≤ b) (hab : a + b ≤ unitsOf l) :
    shape (sellL (pickK k) (sellL (pickK k) l.length l a).1.length (sellL (pickK k) l.length l a).1 b).1 = shape (sellL (pickK k) l.length l (a + b)).1 ∧ (sellL (pickK k) l.length l a).2 + (sellL (pickK k) (sellL (pickK k) l.length l a).1.length (sellL (pickK k) l.length l a).1 b).2 ≤ (sellL (pickK k) l.length l (a + b)).2 ∧ (sellL (pickK k) l.length l (a + b)).2 - (sellL (pickK k) l.length l a).2 - (sellL (pickK k) (sellL (pickK k) l.length l a).1.length (sellL (pickK k) l.length l a).1 b).2 ≤ 1 := by
  have hp : ∀ l : List (Int × Int × Int), 0 < l.length → pickK k l < l.length := fun l hl => pick_in k hl
  have hlen := (sell_kept k h ha (by omega)).len
  have := sell_parts (pickK k) hp (pick_set k hk) l.length l a b (lots_0 h).2.2 (Nat.le_refl _) ha hb hab
  rw [sell_fuel (pickK k) hp (sellL (pickK k) l.length l a).1.length l.length (sellL (pickK k) l.length l a).1 b (Nat.le_refl _) hlen]
  exact this
theorem shape_len {l m : List (Int × Int × Int)} (h : shape l = shape m) : l.length = m.length := by
  have := congrArg List.length h
  simpa [shape] using this
theorem shape_at {l m : List (Int × Int × Int)} (h : shape l = shape m) (i : Nat) (hi : i < l.length) : (l.getD i default).1 = (m.getD i default).1 ∧ (l.getD i default).2.1 = (m.getD i default).2.1 := by
  have hm : i < m.length := by rw [← shape_len h]; exact hi
  have e : (shape l)[i]? = (shape m)[i]? := by rw [h]
  unfold shape at e
  rw [List.getElem?_map, List.getElem?_map, List.getElem?_eq_getElem hi, List.getElem?_eq_getElem hm] at e
  rw [List.getD_eq_getElem?_getD, List.getD_eq_getElem?_getD, List.getElem?_eq_getElem hi, List.getElem?_eq_getElem hm]
  simpa using e

end Go.Proofs.Ytbohdhiadgcljaa
