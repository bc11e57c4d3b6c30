/-
  Merged: RefBook.
-/
import Derived.Test.YtgccipmeiceonaaGreatMa25
-- RefBook
namespace Go.Proofs.YtgccipmeiceonaaGreat
open Go.RowKit
set_option linter.unusedVariables false

set_option maxHeartbeats 1000000 in
theorem right_t (a u n : Int) (w : World) (h : ptB (a, u, n) = true) : Calls Tryz.prog 110 #[.agg #[.int .i64 a, .int .i64 u, .int .i64 n]] w fun e w' => e = .returned (.bool true) ∧ Kpt w w' := by
  have hb := pt_t h
  simp only at hb
  obtain ⟨a0, a1, u0, u1, hz, n0, n1⟩ := hb
  have z : (n != 0) = true := bne_iff_ne.2 hz
  have AC := Lib.hid (fun W => rck_ok n W (amt_mk n0 n1))
  clear h hz
  go_enter Tryz.func110, Tryz.ntmps110
  go_wp2_with (first
    | (go_at_call 53; (with_reducible refine (rbtw_t _ _ _ _ (by omega) (by omega)).mono ?_); rintro e w' ⟨rfl, rfl⟩)
    | (go_at_call 115; (with_reducible refine (AC.out _).mono ?_); rintro e w' ⟨rfl, rfl⟩))
  go_ret
  exact ⟨rfl, (Kpt.refl _).alloc _⟩
set_option maxHeartbeats 1000000 in
theorem right_f (a u n : Int) (w : World) (h : ptB (a, u, n) = false) : Calls Tryz.prog 110 #[.agg #[.int .i64 a, .int .i64 u, .int .i64 n]] w fun e w' => e = .returned (.bool false) ∧ Kpt w w' := by
  have hb := pt_f h
  simp only at hb
  clear h
  by_cases ha : 0 ≤ a ∧ a ≤ 100
  · obtain ⟨a0, a1⟩ := ha
    by_cases hu : 0 ≤ u ∧ u ≤ 20
    · obtain ⟨u0, u1⟩ := hu
      cases hn : amtB n with
      | true =>
        have AC := Lib.hid (fun W => rck_ok n W hn)
        have hn' := amt_t hn
        have hz : n = 0 := by omega
        subst hz
        clear hb hn hn'
        go_enter Tryz.func110, Tryz.ntmps110
        go_wp2_with (first
          | (go_at_call 53; (with_reducible refine (rbtw_t _ _ _ _ (by omega) (by omega)).mono ?_); rintro e w' ⟨rfl, rfl⟩)
          | (go_at_call 115; (with_reducible refine (AC.out _).mono ?_); rintro e w' ⟨rfl, rfl⟩))
        go_ret
        exact ⟨rfl, (Kpt.refl _).alloc _⟩
      | false =>
        have AC := Lib.hid (fun W => rck_no n W hn)
        clear hb hn
        go_enter Tryz.func110, Tryz.ntmps110
        go_wp2_with (first
          | (go_at_call 53; (with_reducible refine (rbtw_t _ _ _ _ (by omega) (by omega)).mono ?_); rintro e w' ⟨rfl, rfl⟩)
          | (go_at_call 115; (with_reducible refine (AC.out _).mono ?_); rintro e w' ⟨rfl, rfl⟩))
        go_ret
        exact ⟨rfl, (Kpt.refl _).alloc _⟩
    · have HU := Lib.hid (fun W => rbtw_f u 0 20 W (by omega))
      have HA := Lib.hid (fun W => rbtw_t a 0 100 W a0 a1)
      clear hb hu
      go_enter Tryz.func110, Tryz.ntmps110
      go_wp2_with (first
        | (go_at_call 53; (with_reducible refine (HA.out _).mono ?_); rintro e w' ⟨rfl, rfl⟩)
        | (go_at_call 53; (with_reducible refine (HU.out _).mono ?_); rintro e w' ⟨rfl, rfl⟩))
      go_ret
      exact ⟨rfl, (Kpt.refl _).alloc _⟩
  · have HA := Lib.hid (fun W => rbtw_f a 0 100 W (by omega))
    clear hb ha
    go_enter Tryz.func110, Tryz.ntmps110
    go_wp2_with (go_at_call 53; (with_reducible refine (HA.out _).mono ?_); rintro e w' ⟨rfl, rfl⟩)
    go_ret
    exact ⟨rfl, (Kpt.refl _).alloc _⟩

/-- the amounts of a unit -/
def unitA (l : List (Int × Int × Int)) (u : Int) : List Int := (l.filter fun p => decide (p.2.1 = u)).map fun p => p.2.2
theorem unitA_more {l : List (Int × Int × Int)} {k : Nat} (hk : k < l.length) (u : Int) (h : (l.getD k default).2.1 = u) : unitA (l.take (k + 1)) u = unitA (l.take k) u ++ [(l.getD k default).2.2] := by
  unfold unitA
  have e := take_one hk
  generalize l.getD k default = q at *
  rw [e, List.filter_append, List.filter_cons_of_pos (by simp [h]), List.map_append]
  rfl
theorem unitA_stay {l : List (Int × Int × Int)} {k : Nat} (hk : k < l.length) (u : Int) (h : ¬ (l.getD k default).2.1 = u) : unitA (l.take (k + 1)) u = unitA (l.take k) u := by
  unfold unitA
  have e := take_one hk
  generalize l.getD k default = q at *
  rw [e, List.filter_append, List.filter_cons_of_neg (by simpa using h)]
  simp
theorem unitA_sum (l : List (Int × Int × Int)) (u : Nat) : (unitA l (u : Int)).sum = unitS l u := by
  induction l with
  | nil => rfl
  | cons p l ih =>
    unfold unitA at *
    rw [List.filter_cons, unitS]
    by_cases h : p.2.1 = (u : Int)
    · rw [if_pos (by simp [h]), if_pos h, List.map_cons, List.sum_cons]; omega
    · rw [if_neg (by simpa using h), if_neg h]; omega
theorem unitA_len (l : List (Int × Int × Int)) (k : Nat) (u : Int) : (unitA (l.take k) u).length ≤ l.length := by
  unfold unitA
  rw [List.length_map]
  have h := List.length_filter_le (fun p : Int × Int × Int => decide (p.2.1 = u)) (l.take k)
  rw [List.length_take] at h
  omega
theorem unitA_amt {l : List (Int × Int × Int)} (h : ∀ p ∈ l, ptB p = true) (u : Int) : ∀ z ∈ unitA l u, amtB z = true := fun z hz => by
  obtain ⟨p, hp, rfl⟩ := List.mem_map.1 hz
  have := pt_t (h p (List.mem_filter.1 hp).1)
  exact amt_mk (by omega) (by omega)

set_option maxRecDepth 100000 in
set_option maxHeartbeats 2000000 in
theorem amts_unit (v : Value) (l : List (Int × Int × Int)) (u : Int) (w : World) (hr : ReadsP w v l) (hn : l.length ≤ 900) : Calls Tryz.prog 98 #[v, .int .i64 (-1), .int .i64 u] w fun e w' => ∃ v', e = .returned v' ∧ Hid (Owns w' w.heap.size v' (unitA l u)) ∧ Hid (Kpt w w') := by
  obtain ⟨a, cap, rfl, -, -, -, hc⟩ := hr
  have HC := Lib.hid hc
  clear hc
  go_enter Tryz.func98, Tryz.ntmps98
  go_wp2
  go_loopw [7, 8] (fun m i wr => ∃ k : Nat, k ≤ l.length ∧ i = .int .i64 k ∧ Hid (Owns wr w.heap.size m (unitA (l.take k) u)) ∧ Hid (Kpt w wr)) (fun _ i _ => l.length - (intOf i).toNat)
  case atStart => exact ⟨0, Nat.zero_le _, rfl, Owns.nil _ _, Kpt.refl _⟩
  case round =>
    obtain ⟨k, hk, rfl, HO, HJ⟩ := hrel
    by_cases hlt : k < l.length
    · obtain ⟨x, off, rfl, c0, c1, c2⟩ := HC.out k hlt
      have d0 := HJ.out.cell c0
      have d1 := HJ.out.cell c1
      have d2 := HJ.out.cell c2
      have hm := Lib.hid (unitA_more hlt u)
      have hs := Lib.hid (unitA_stay hlt u)
      have hn2 := unitA_len l k u
      clear c0 c1 c2
      generalize l.getD k default = p at d0 d1 d2 hm hs
      obtain ⟨A, U, N⟩ := p
      simp only at d0 d1 d2
      by_cases h2 : U = u
      · have HM := Lib.hid (hm.out h2)
        have q2 : (U == u) = true := beq_iff_eq.2 h2
        clear hm hs h2
        go_wp2_with (at_builtin; refine wp_append1 rfl (.tmp 35) (.tmp 41) rfl w.heap.size _ _ N wr rfl HO.out rfl (by omega) HJ.out.size ?_; intro v' w' h1 h2; have HO' : Hid (Owns w' w.heap.size v' (unitA (l.take (k + 1)) u)) := (by unfold Hid; rw [HM.out]; exact h1); have HJ' : Hid (Kpt w w') := Below.trans HJ.out h2; clear h1 h2)
        go_roundw
        case rel => exact ⟨k + 1, by omega, by go_num, HO'.out, HJ'.out⟩
        case measure => simp [intOf]; omega
      · have HM := Lib.hid (hs.out h2)
        have q2 : (U == u) = false := beq_eq_false_iff_ne.2 h2
        have HO' : Hid (Owns wr w.heap.size u7 (unitA (l.take (k + 1)) u)) := by unfold Hid; rw [HM.out]; exact HO.out
        clear hm hs h2
        go_wp2
        go_roundw
        case rel => exact ⟨k + 1, by omega, by go_num, HO'.out, HJ.out⟩
        case measure => simp [intOf]; omega
    · have e : l.take k = l := List.take_of_length_le (by omega)
      rw [e] at HO
      clear e
      go_wp2
      go_ret
      exact ⟨_, rfl, HO.out, HJ.out⟩
set_option maxRecDepth 100000 in
set_option maxHeartbeats 2000000 in
theorem amts_place (v : Value) (l : List (Int × Int × Int)) (a' u : Int) (w : World) (hr : ReadsP w v l) (hn : l.length ≤ 900) (ha : 0 ≤ a') : Calls Tryz.prog 98 #[v, .int .i64 a', .int .i64 u] w fun e w' => ∃ v', e = .returned v' ∧ Hid (Owns w' w.heap.size v' (amtsOf l a' u)) ∧ Hid (Kpt w w') := by
  obtain ⟨a, cap, rfl, -, -, -, hc⟩ := hr
  have HC := Lib.hid hc
  have ha' : decide (a' < 0) = false := decide_eq_false (by omega)
  clear hc
  go_enter Tryz.func98, Tryz.ntmps98
  go_wp2
  go_loopw [7, 8] (fun m i wr => ∃ k : Nat, k ≤ l.length ∧ i = .int .i64 k ∧ Hid (Owns wr w.heap.size m (amtsOf (l.take k) a' u)) ∧ Hid (Kpt w wr)) (fun _ i _ => l.length - (intOf i).toNat)
  case atStart => exact ⟨0, Nat.zero_le _, rfl, Owns.nil _ _, Kpt.refl _⟩
  case round =>
    obtain ⟨k, hk, rfl, HO, HJ⟩ := hrel
    by_cases hlt : k < l.length
    · obtain ⟨x, off, rfl, c0, c1, c2⟩ := HC.out k hlt
      have d0 := HJ.out.cell c0
      have d1 := HJ.out.cell c1
      have d2 := HJ.out.cell c2
      have hm := Lib.hid (amtsOf_more hlt a' u)
      have hs := Lib.hid (amtsOf_stay hlt a' u)
      have hn2 := amtsOf_len l k a' u
      clear c0 c1 c2
      generalize l.getD k default = p at d0 d1 d2 hm hs
      obtain ⟨A, U, N⟩ := p
      simp only at d0 d1 d2
      by_cases h2 : U = u
      · have q2 : (U == u) = true := beq_iff_eq.2 h2
        by_cases h1 : A = a'
        · have HM := Lib.hid (hm.out h1 h2)
          have q1 : (A == a') = true := beq_iff_eq.2 h1
          clear hm hs h1 h2
          go_wp2_with (at_builtin; refine wp_append1 rfl (.tmp 35) (.tmp 41) rfl w.heap.size _ _ N wr rfl HO.out rfl (by omega) HJ.out.size ?_; intro v' w' h1 h2; have HO' : Hid (Owns w' w.heap.size v' (amtsOf (l.take (k + 1)) a' u)) := (by unfold Hid; rw [HM.out]; exact h1); have HJ' : Hid (Kpt w w') := Below.trans HJ.out h2; clear h1 h2)
          go_roundw
          case rel => exact ⟨k + 1, by omega, by go_num, HO'.out, HJ'.out⟩
          case measure => simp [intOf]; omega
        · have HM := Lib.hid (hs.out fun q => h1 q.1)
          have q1 : (A == a') = false := beq_eq_false_iff_ne.2 h1
          have HO' : Hid (Owns wr w.heap.size u7 (amtsOf (l.take (k + 1)) a' u)) := by unfold Hid; rw [HM.out]; exact HO.out
          clear hm hs h1 h2
          go_wp2
          go_roundw
          case rel => exact ⟨k + 1, by omega, by go_num, HO'.out, HJ.out⟩
          case measure => simp [intOf]; omega
      · have HM := Lib.hid (hs.out fun q => h2 q.2)
        have q2 : (U == u) = false := beq_eq_false_iff_ne.2 h2
        have HO' : Hid (Owns wr w.heap.size u7 (amtsOf (l.take (k + 1)) a' u)) := by unfold Hid; rw [HM.out]; exact HO.out
        clear hm hs h2
        go_wp2
        go_roundw
        case rel => exact ⟨k + 1, by omega, by go_num, HO'.out, HJ.out⟩
        case measure => simp [intOf]; omega
    · have e : l.take k = l := List.take_of_length_le (by omega)
      rw [e] at HO
      clear e
      go_wp2
      go_ret
      exact ⟨_, rfl, HO.out, HJ.out⟩

/-- what SumOf answers of a list of the call's own -/
theorem sumOf_any2 {w : World} {base : Nat} (v : Value) (zs : List Int) (S : Int) (h : Owns w base v zs) (hm : zs.length ≤ 1000) (ha : ∀ z ∈ zs, amtB z = true) (hS : zs.sum = S) :
    Calls Tryz.prog 63 #[v] w (RSumRes w S) := by
  obtain ⟨_, _, _, hr⟩ := h.reads
  exact hS ▸ sumOf_any v zs w hr hm ha
theorem sumOf_no {w : World} {base : Nat} (v : Value) (zs : List Int) (S : Int) (h : Owns w base v zs) (hm : zs.length ≤ 1000) (ha : ∀ z ∈ zs, amtB z = true) (hS : zs.sum = S) (hA : amtB S = false) :
    Calls Tryz.prog 63 #[v] w fun e w' => ∃ r : Int, e = .returned (.tuple #[.int .i64 r, .bool false]) ∧ Kpt w w' := by
  refine (sumOf_any2 v zs S h hm ha hS).mono ?_
  rintro e w' ⟨hk, ⟨hx, _⟩ | ⟨_, r, rfl⟩⟩
  · rw [hA] at hx; cases hx
  · exact ⟨r, rfl, hk⟩

theorem evn_no {l : List (Int × Int × Int)} {u : Nat} (hu : u < 21) (h : unitS l u ≠ 0) : evnB l = false := by
  cases e : evnB l with
  | false => rfl
  | true => exact absurd (evn_t e u hu) h

set_option maxHeartbeats 2000000 in
theorem even_run (v : Value) (l : List (Int × Int × Int)) (w : World) (hr : ReadsP w v l) (hn : l.length ≤ 900) (hp : ∀ p ∈ l, ptB p = true) : Calls Tryz.prog 111 #[v] w fun e w' => e = .returned (.bool (evnB l)) ∧ Kpt w w' := by
  have RL := Lib.hid hr
  have HP := Lib.hid hp
  clear hr hp
  go_enter Tryz.func111, Tryz.ntmps111
  go_wp2
  go_loopw [3] (fun i wr => ∃ k : Nat, k ≤ 21 ∧ i = .int .i64 k ∧ Hid (∀ x, x < k → unitS l x = 0) ∧ Hid (Kpt w wr)) (fun i _ => 21 - (intOf i).toNat)
  case atStart => exact ⟨0, Nat.zero_le _, rfl, (fun x hx => absurd hx (Nat.not_lt_zero x)), Kpt.refl _⟩
  case round =>
    obtain ⟨k, hk, rfl, HZ, HJ⟩ := hrel
    by_cases hlt : k < 21
    · have k20 : (k : Int) ≤ 20 := by omega
      have AU := Lib.hid (fun w hr => amts_unit v l k w hr hn)
      have hl := unitA_len l l.length k
      rw [List.take_length] at hl
      by_cases hz : unitS l k = 0
      · have SO := Lib.hid (fun v' w' base (h : Owns w' base v' (unitA l k)) => sumOf_own v' (unitA l k) 0 h (by omega) (unitA_amt HP.out k) ((unitA_sum l k).trans hz) (by decide))
        have HX : Hid (∀ x, x < k + 1 → unitS l x = 0) := fun x hx => by
          rcases Nat.lt_or_ge x k with h | h
          · exact HZ.out x h
          · obtain rfl : x = k := by omega
            exact hz
        clear hz
        go_wp2_with (first
          | (go_at_call 98; (with_reducible refine (AU.out _ (RL.out.kpt HJ.out)).mono ?_); rintro e w1 ⟨v1, rfl, O1, k1⟩; have K1 := Lib.hid (ktr HJ.out k1.out); clear k1)
          | (go_at_call 63; (with_reducible refine (SO.out _ _ _ O1.out).mono ?_); rintro e w2 ⟨rfl, k2⟩; have K2 := Lib.hid (ktr K1.out k2); clear k2))
        go_roundw
        case rel => exact ⟨k + 1, by omega, by go_num, HX.out, K2.out⟩
        case measure => simp [intOf]; omega
      · have EV := Lib.hid (evn_no hlt hz)
        cases hA : amtB (unitS l k) with
        | true =>
          have SO := Lib.hid (fun v' w' base (h : Owns w' base v' (unitA l k)) => sumOf_own v' (unitA l k) _ h (by omega) (unitA_amt HP.out k) (unitA_sum l k) hA)
          have q : (unitS l k != 0) = true := bne_iff_ne.2 hz
          clear hz hA
          generalize unitS l k = S at *
          go_wp2_with (first
            | (go_at_call 98; (with_reducible refine (AU.out _ (RL.out.kpt HJ.out)).mono ?_); rintro e w1 ⟨v1, rfl, O1, k1⟩; have K1 := Lib.hid (ktr HJ.out k1.out); clear k1)
            | (go_at_call 63; (with_reducible refine (SO.out _ _ _ O1.out).mono ?_); rintro e w2 ⟨rfl, k2⟩; have K2 := Lib.hid (ktr K1.out k2); clear k2))
          go_ret
          exact ⟨by rw [EV.out]; rfl, K2.out⟩
        | false =>
          have SO := Lib.hid (fun v' w' base (h : Owns w' base v' (unitA l k)) => sumOf_no v' (unitA l k) _ h (by omega) (unitA_amt HP.out k) (unitA_sum l k) hA)
          clear hz hA
          go_wp2_with (first
            | (go_at_call 98; (with_reducible refine (AU.out _ (RL.out.kpt HJ.out)).mono ?_); rintro e w1 ⟨v1, rfl, O1, k1⟩; have K1 := Lib.hid (ktr HJ.out k1.out); clear k1)
            | (go_at_call 63; (with_reducible refine (SO.out _ _ _ O1.out).mono ?_); rintro e w2 ⟨r2, rfl, k2⟩; have K2 := Lib.hid (ktr K1.out k2); clear k2))
          go_ret
          exact ⟨by rw [EV.out]; rfl, K2.out⟩
    · obtain rfl : k = 21 := by omega
      have EV : Hid (evnB l = true) := evn_mk HZ.out
      go_wp2
      go_ret
      exact ⟨by rw [EV.out]; rfl, HJ.out⟩

end Go.Proofs.YtgccipmeiceonaaGreat
