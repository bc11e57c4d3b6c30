/-
  BookSum, BookEven: the walks.
-/
import Derived.Test.YtcpfldlcocencaaBookR
import Derived.Test.YtcpfldlcocencaaLawBook
namespace Go.Proofs.Ytcpfldlcocencaa
open Go.RowKit
set_option linter.unusedVariables false

theorem lines_is (v : Value) (l : List (Int × Int × Int)) (w : World) (hl : ReadsP w v l) {E : Int} (h : linE l = E) : Calls Try.prog 21 #[v] w fun e w' => e = .returned (.int .i64 E) ∧ Kpt w w' := by
  refine (lines_any v l w hl).mono ?_
  rintro e w' ⟨rfl, g⟩
  exact ⟨by rw [h], g.kpt⟩

set_option maxHeartbeats 1000000 in
theorem bookSum_bad (v : Value) (un : Int) (l : List (Int × Int × Int)) (w : World) (hl : ReadsP w v l) (h : linE l ≠ 0) : Calls Try.prog 9 #[v, .int .i64 un] w fun e w' => e = .returned (.bool true) ∧ Kpt w w' := by
  have RL := Lib.hid hl
  have q : (linE l != 0) = true := bne_iff_ne.2 h
  have LL := Lib.hid (fun w hl => lines_is v l w hl rfl)
  clear hl h
  generalize linE l = E at *
  go_enter Try.func9, Try.ntmps9
  go_wp2_with (first
    | (go_at_call 19; (with_reducible refine (bookBegun _).mono ?_); rintro e w2 ⟨rfl, k2⟩; have K2 := Lib.hid k2; clear k2)
    | (go_at_call 21; (with_reducible refine (LL.out _ (RL.out.kpt K2.out)).mono ?_); rintro e w1 ⟨rfl, k1⟩; have K1 := Lib.hid (ktr K2.out k1); clear k1))
  go_ret
  exact ⟨rfl, K1.out⟩
set_option maxHeartbeats 1000000 in
theorem bookSum_out (v : Value) (un : Int) (l : List (Int × Int × Int)) (w : World) (hl : ReadsP w v l) (h : linE l = 0) (hu : un < 0 ∨ 20 < un) : Calls Try.prog 9 #[v, .int .i64 un] w fun e w' => e = .returned (.bool true) ∧ Kpt w w' := by
  have RL := Lib.hid hl
  have LL := Lib.hid (fun w hl => lines_is v l w hl h)
  clear hl h
  by_cases h1 : un < 0
  · clear hu
    go_enter Try.func9, Try.ntmps9
    go_wp2_with (first
      | (go_at_call 19; (with_reducible refine (bookBegun _).mono ?_); rintro e w2 ⟨rfl, k2⟩; have K2 := Lib.hid k2; clear k2)
      | (go_at_call 21; (with_reducible refine (LL.out _ (RL.out.kpt K2.out)).mono ?_); rintro e w1 ⟨rfl, k1⟩; have K1 := Lib.hid (ktr K2.out k1); clear k1))
    go_ret
    exact ⟨rfl, K1.out⟩
  · have h2 : 20 < un := hu.resolve_left h1
    have h3 : decide (un < 0) = false := decide_eq_false h1
    clear hu
    go_enter Try.func9, Try.ntmps9
    go_wp2_with (first
      | (go_at_call 19; (with_reducible refine (bookBegun _).mono ?_); rintro e w2 ⟨rfl, k2⟩; have K2 := Lib.hid k2; clear k2)
      | (go_at_call 21; (with_reducible refine (LL.out _ (RL.out.kpt K2.out)).mono ?_); rintro e w1 ⟨rfl, k1⟩; have K1 := Lib.hid (ktr K2.out k1); clear k1))
    go_ret
    exact ⟨rfl, K1.out⟩

theorem bal_at (v : Value) (l : List (Int × Int × Int)) (a u : Nat) (w : World) (hl : ReadsP w v l) (h : linE l = 0) (ha : a ≤ 100) (hu : u ≤ 20) : Calls Try.prog 11 #[v, .int .i64 a, .int .i64 u] w fun e w' => e = .returned (.tuple #[.int .i64 (sumAt l a u), .int .i64 0]) ∧ Kpt w w' := by
  refine (balance_any v l a u w hl).mono ?_
  rintro e w' ⟨rfl, g⟩
  have hp : plB (a : Int) (u : Int) = true := decide_eq_true ⟨by omega, by omega, by omega, by omega⟩
  have hE : balE l a u = 0 := by unfold balE; rw [if_neg (by simpa using h), hp]; rfl
  have hR : balR l a u = sumAt l a u := by unfold balR; rw [if_pos hE, bal_sum (lin_0 h).2.1]
  exact ⟨by rw [hE, hR], g.kpt⟩

set_option maxRecDepth 100000 in
set_option maxHeartbeats 4000000 in
theorem bookSum_ok (v : Value) (u : Nat) (l : List (Int × Int × Int)) (w : World) (hl : ReadsP w v l) (h : linE l = 0) (hu : u ≤ 20) : Calls Try.prog 9 #[v, .int .i64 u] w fun e w' => e = .returned (.bool true) ∧ Kpt w w' := by
  have RL := Lib.hid hl
  have LL := Lib.hid (fun w hl => lines_is v l w hl h)
  have SA := Lib.hid (lin_0 h).2.1
  have BA := Lib.hid (fun a w hl ha => bal_at v l a u w hl h ha hu)
  have SZ : Hid ((balsOf l u 101).sum = 0) := by unfold Hid; rw [balsOf_sum, accS_unit (strict_pt (lin_0 h).2.1)]; exact evn_t (lin_0 h).2.2 u (by omega)
  clear hl h
  have u0 : (0 : Int) ≤ (u : Int) := by omega
  have u1 : (u : Int) ≤ 20 := by omega
  go_enter Try.func9, Try.ntmps9
  go_wp2_with (first
    | (go_at_call 19; (with_reducible refine (bookBegun _).mono ?_); rintro e w2 ⟨rfl, k2⟩; have K2 := Lib.hid k2; clear k2)
    | (go_at_call 21; (with_reducible refine (LL.out _ (RL.out.kpt K2.out)).mono ?_); rintro e w1 ⟨rfl, k1⟩; have K1 := Lib.hid (ktr K2.out k1); clear k1))
  go_loopw [5, 6] (fun m i wr => ∃ k : Nat, k ≤ 101 ∧ i = .int .i64 k ∧ Hid (Owns wr w1.heap.size m (balsOf l u k)) ∧ Hid (Kpt w1 wr)) (fun _ i _ => 101 - (intOf i).toNat)
  case atStart => exact ⟨0, Nat.zero_le _, rfl, Owns.nil _ _, Kpt.refl _⟩
  case round =>
    obtain ⟨k, hk, rfl, HO, HK⟩ := hrel
    by_cases hlt : k < 101
    · have BK := Lib.hid (BA.out k wr (RL.out.kpt (ktr K1.out HK.out)) (by omega))
      have HM := Lib.hid (balsOf_more l u k)
      have hn := Lib.hid (balsOf_len l u k)
      have k100 : (k : Int) ≤ 100 := by omega
      generalize sumAt l (k : Int) (u : Int) = S at *
      go_wp2_with (first
        | (go_at_call 11; (with_reducible refine BK.out.mono ?_); rintro e w4 ⟨rfl, k4⟩; have HO4 := Lib.hid (HO.out.kpt k4); have HK4 := Lib.hid (ktr HK.out k4); clear k4)
        | (at_builtin; refine wp_append1 rfl (.tmp 37) (.tmp 39) rfl w1.heap.size _ _ S w4 rfl HO4.out rfl (by have := hn.out; omega) HK4.out.size ?_; intro v' w' h1 h2; have HO' : Hid (Owns w' w1.heap.size v' (balsOf l u (k + 1))) := (by unfold Hid; rw [HM.out]; exact h1); have HK' : Hid (Kpt w1 w') := Below.trans HK4.out h2; clear h1 h2))
      go_roundw
      case rel => exact ⟨k + 1, by omega, by go_num, HO'.out, HK'.out⟩
      case measure => simp [intOf]; omega
    · obtain rfl : k = 101 := by omega
      have SO := Lib.hid (sumOf_own u5 (balsOf l u 101) 0 HO.out (by rw [balsOf_len]; omega) (balsOf_amt SA.out u 101) SZ.out (by decide))
      go_wp2_with (go_at_call 24; (with_reducible refine SO.out.mono ?_); rintro e w3 ⟨rfl, k3⟩; have K3 := Lib.hid (ktr (ktr K1.out HK.out) k3); clear k3)
      go_ret
      exact ⟨rfl, K3.out⟩

theorem bookSum_walk (v : Value) (un : Int) (l : List (Int × Int × Int)) (w : World) (hl : ReadsP w v l) : Calls Try.prog 9 #[v, .int .i64 un] w fun e w' => e = .returned (.bool true) ∧ Kpt w w' := by
  by_cases h : linE l = 0
  · by_cases hu : un < 0 ∨ 20 < un
    · exact bookSum_out v un l w hl h hu
    · obtain ⟨u, rfl⟩ : ∃ u : Nat, un = (u : Int) := ⟨un.toNat, by omega⟩
      exact bookSum_ok v u l w hl h (by omega)
  · exact bookSum_bad v un l w hl h


theorem bal_out (v : Value) (l : List (Int × Int × Int)) (a u : Int) (w : World) (hl : ReadsP w v l) (h : linE l = 0) (hp : plB a u = false) : Calls Try.prog 11 #[v, .int .i64 a, .int .i64 u] w fun e w' => e = .returned (.tuple #[.int .i64 0, .int .i64 3]) ∧ Kpt w w' := by
  refine (balance_any v l a u w hl).mono ?_
  rintro e w' ⟨rfl, g⟩
  have hE : balE l a u = 3 := by unfold balE; rw [if_neg (by simpa using h), hp]; rfl
  have hR : balR l a u = 0 := by unfold balR; rw [if_neg (by rw [hE]; decide)]
  exact ⟨by rw [hE, hR], g.kpt⟩
theorem bal_in (v : Value) (l : List (Int × Int × Int)) (a u : Int) (w : World) (hl : ReadsP w v l) (h : linE l = 0) (hp : plB a u = true) : Calls Try.prog 11 #[v, .int .i64 a, .int .i64 u] w fun e w' => e = .returned (.tuple #[.int .i64 (sumAt l a u), .int .i64 0]) ∧ Kpt w w' := by
  refine (balance_any v l a u w hl).mono ?_
  rintro e w' ⟨rfl, g⟩
  have hE : balE l a u = 0 := by unfold balE; rw [if_neg (by simpa using h), hp]; rfl
  have hR : balR l a u = sumAt l a u := by unfold balR; rw [if_pos hE, bal_sum (lin_0 h).2.1]
  exact ⟨by rw [hE, hR], g.kpt⟩

set_option maxHeartbeats 1000000 in
theorem bookEven_bad (v t : Value) (a u : Int) (b l : List (Int × Int × Int)) (w : World) (hb : ReadsP w v b) (hl : ReadsP w t l) (h : ∀ R, ¬ Posted b l R) : Calls Try.prog 4 #[v, t, .int .i64 a, .int .i64 u] w fun e w' => e = .returned (.bool true) ∧ Kpt w w' := by
  have PF := Lib.hid (post_fails v t b l w hb hl h)
  clear hb hl h
  go_enter Try.func4, Try.ntmps4
  go_wp2_with (first
    | (go_at_call 10; (with_reducible refine PF.out.mono ?_); rintro e w1 ⟨E, a1, c1, q1, q2, -, K1, rfl⟩)
    | (go_at_call 19; (with_reducible refine (bookBegun _).mono ?_); rintro e w2 ⟨rfl, k2⟩; have K2 := Lib.hid (ktr K1.out k2); clear k2))
  go_ret
  exact ⟨rfl, K2.out⟩
set_option maxHeartbeats 2000000 in
theorem bookEven_out (v t : Value) (a u : Int) (b l R : List (Int × Int × Int)) (w : World) (hb : ReadsP w v b) (hl : ReadsP w t l) (h : Posted b l R) (hp : plB a u = false) : Calls Try.prog 4 #[v, t, .int .i64 a, .int .i64 u] w fun e w' => e = .returned (.bool true) ∧ Kpt w w' := by
  have PG := Lib.hid (post_goes v t b l R w hb hl h)
  have RB := Lib.hid hb
  have LR := Lib.hid (fun v w hl => lines_is v R w hl h.lines)
  have B1 := Lib.hid (fun w hl => bal_out v b a u w hl h.lin hp)
  have B2 := Lib.hid (fun v w hl => bal_out v R a u w hl h.lines hp)
  clear hb hl h hp
  go_enter Try.func4, Try.ntmps4
  go_wp2_with (first
    | (go_at_call 10; (with_reducible refine PG.out.mono ?_); rintro e w1 ⟨a1, c1, rfl, R1, K1⟩)
    | (go_at_call 19; (with_reducible refine (bookBegun _).mono ?_); rintro e w2 ⟨rfl, k2⟩; have K2 := Lib.hid (ktr K1.out k2); have R2 := Lib.hid (R1.out.kpt k2); clear k2)
    | (go_at_call 21; (with_reducible refine (LR.out _ _ R2.out).mono ?_); rintro e w3 ⟨rfl, k3⟩; have K3 := Lib.hid (ktr K2.out k3); have R3 := Lib.hid (R2.out.kpt k3); clear k3)
    | (go_at_call 11; (with_reducible refine (B1.out _ (RB.out.kpt K3.out)).mono ?_); rintro e w4 ⟨rfl, k4⟩; have K4 := Lib.hid (ktr K3.out k4); have R4 := Lib.hid (R3.out.kpt k4); clear k4)
    | (go_at_call 11; (with_reducible refine (B2.out _ _ R4.out).mono ?_); rintro e w5 ⟨rfl, k5⟩; have K5 := Lib.hid (ktr K4.out k5); clear k5))
  go_ret
  exact ⟨rfl, K5.out⟩

set_option maxRecDepth 100000 in
set_option maxHeartbeats 4000000 in
theorem bookEven_ok (v t : Value) (a u : Int) (b l R : List (Int × Int × Int)) (w : World) (hb : ReadsP w v b) (hl : ReadsP w t l) (h : Posted b l R) (hp : plB a u = true) : Calls Try.prog 4 #[v, t, .int .i64 a, .int .i64 u] w fun e w' => e = .returned (.bool true) ∧ Kpt w w' := by
  have PG := Lib.hid (post_goes v t b l R w hb hl h)
  have RB := Lib.hid hb
  have LR := Lib.hid (fun v w hl => lines_is v R w hl h.lines)
  have B1 := Lib.hid (fun w hl => bal_in v b a u w hl h.lin hp)
  have B2 := Lib.hid (fun v w hl => bal_in v R a u w hl h.lines hp)
  have l60 := (chk_0 h.chk).2.1
  have PT := Lib.hid (chk_0 h.chk).2.2.1
  have AB := Lib.hid (strict_amt (lin_0 h.lin).2.1 a u)
  have AR := Lib.hid (strict_amt h.book.strict a u)
  have SUM : Hid ((amtsOf l a u ++ [sumAt b a u]).sum = sumAt R a u) := by unfold Hid; rw [List.sum_append, amtsOf_sum, h.sum]; simp; omega
  obtain ⟨al, cl, rfl, -, -, -, hc⟩ := id hl
  have HC := Lib.hid hc
  clear hb hl h hp hc
  generalize sumAt b a u = SB at *
  generalize sumAt R a u = SR at *
  go_enter Try.func4, Try.ntmps4
  go_wp2_with (first
    | (go_at_call 10; (with_reducible refine PG.out.mono ?_); rintro e w1 ⟨a1, c1, rfl, R1, K1⟩)
    | (go_at_call 19; (with_reducible refine (bookBegun _).mono ?_); rintro e w2 ⟨rfl, k2⟩; have K2 := Lib.hid (ktr K1.out k2); have R2 := Lib.hid (R1.out.kpt k2); clear k2)
    | (go_at_call 21; (with_reducible refine (LR.out _ _ R2.out).mono ?_); rintro e w3 ⟨rfl, k3⟩; have K3 := Lib.hid (ktr K2.out k3); have R3 := Lib.hid (R2.out.kpt k3); clear k3)
    | (go_at_call 11; (with_reducible refine (B1.out _ (RB.out.kpt K3.out)).mono ?_); rintro e w4 ⟨rfl, k4⟩; have K4 := Lib.hid (ktr K3.out k4); have R4 := Lib.hid (R3.out.kpt k4); clear k4)
    | (go_at_call 11; (with_reducible refine (B2.out _ _ R4.out).mono ?_); rintro e w5 ⟨rfl, k5⟩; have K5 := Lib.hid (ktr K4.out k5); clear k5))
  go_loopw [15, 16] (fun m i wr => ∃ k : Nat, k ≤ l.length ∧ i = .int .i64 k ∧ Hid (Owns wr w5.heap.size m (amtsOf (l.take k) a u)) ∧ Hid (Kpt w5 wr)) (fun _ i _ => l.length - (intOf i).toNat)
  case atStart => exact ⟨0, Nat.zero_le _, rfl, Owns.nil _ _, Kpt.refl _⟩
  case round =>
    obtain ⟨k, hk, rfl, HO, HJ⟩ := hrel
    by_cases hlt : k < l.length
    · obtain ⟨x, off, rfl, c0, c1, c2⟩ := HC.out k hlt
      have KK := Lib.hid (ktr K5.out HJ.out)
      have d0 := KK.out.cell c0
      have d1 := KK.out.cell c1
      have d2 := KK.out.cell c2
      have hm := Lib.hid (amtsOf_more hlt a u)
      have hs := Lib.hid (amtsOf_stay hlt a u)
      have hn := amtsOf_len l k a u
      clear c0 c1 c2
      generalize l.getD k default = p at d0 d1 d2 hm hs
      obtain ⟨A, U, N⟩ := p
      simp only at d0 d1 d2
      by_cases h1 : A = a
      · by_cases h2 : U = u
        · have HM := Lib.hid (hm.out h1 h2)
          have q1 : (A == a) = true := beq_iff_eq.2 h1
          have q2 : (U == u) = true := beq_iff_eq.2 h2
          clear hm hs h1 h2
          go_wp2_with (at_builtin; refine wp_append1 rfl (.tmp 80) (.tmp 86) rfl w5.heap.size _ _ N wr rfl HO.out rfl (by omega) HJ.out.size ?_; intro v' w' h1 h2; have HO' : Hid (Owns w' w5.heap.size v' (amtsOf (l.take (k + 1)) a u)) := (by unfold Hid; rw [HM.out]; exact h1); have HJ' : Hid (Kpt w5 w') := Below.trans HJ.out h2; clear h1 h2)
          go_roundw
          case rel => exact ⟨k + 1, by omega, by go_num, HO'.out, HJ'.out⟩
          case measure => simp [intOf]; omega
        · have HM := Lib.hid (hs.out fun q => h2 q.2)
          have q1 : (A == a) = true := beq_iff_eq.2 h1
          have q2 : (U == u) = false := beq_eq_false_iff_ne.2 h2
          have HO' : Hid (Owns wr w5.heap.size u15 (amtsOf (l.take (k + 1)) a u)) := by unfold Hid; rw [HM.out]; exact HO.out
          clear hm hs h1 h2
          go_wp2
          go_roundw
          case rel => exact ⟨k + 1, by omega, by go_num, HO'.out, HJ.out⟩
          case measure => simp [intOf]; omega
      · have HM := Lib.hid (hs.out fun q => h1 q.1)
        have q1 : (A == a) = false := beq_eq_false_iff_ne.2 h1
        have HO' : Hid (Owns wr w5.heap.size u15 (amtsOf (l.take (k + 1)) a u)) := by unfold Hid; rw [HM.out]; exact HO.out
        clear hm hs h1
        go_wp2
        go_roundw
        case rel => exact ⟨k + 1, by omega, by go_num, HO'.out, HJ.out⟩
        case measure => simp [intOf]; omega
    · have e : l.take k = l := List.take_of_length_le (by omega)
      rw [e] at HO
      clear e
      have hn := amtsOf_len l l.length a u
      rw [List.take_length] at hn
      have AA : Hid (∀ z ∈ amtsOf l a u ++ [SB], amtB z = true) := fun z hz => by
        rcases List.mem_append.1 hz with hz | hz
        · exact amtsOf_amt PT.out a u z hz
        · rw [List.mem_singleton.1 hz]; exact AB.out
      go_wp2_with (first
        | (at_builtin; refine wp_append1 rfl (.tmp 89) (.tmp 91) rfl w5.heap.size _ _ SB wr rfl HO.out rfl (by omega) HJ.out.size ?_; intro v' w' h1 h2; have HO' := Lib.hid h1; have HJ' : Hid (Kpt w5 w') := Below.trans HJ.out h2; clear h1 h2)
        | (go_at_call 24; (with_reducible refine (sumOf_own _ _ SR HO'.out (by rw [List.length_append]; simp; omega) AA.out SUM.out AR.out).mono ?_); rintro e w6 ⟨rfl, k6⟩; have K6 := Lib.hid (ktr (ktr K5.out HJ'.out) k6); clear k6))
      go_ret
      exact ⟨rfl, K6.out⟩

theorem bookEven_walk (v t : Value) (a u : Int) (b l : List (Int × Int × Int)) (w : World) (hb : ReadsP w v b) (hl : ReadsP w t l) : Calls Try.prog 4 #[v, t, .int .i64 a, .int .i64 u] w fun e w' => e = .returned (.bool true) ∧ Kpt w w' := by
  by_cases h : ∃ R, Posted b l R
  · obtain ⟨R, h⟩ := h
    cases hp : plB a u with
    | true => exact bookEven_ok v t a u b l R w hb hl h hp
    | false => exact bookEven_out v t a u b l R w hb hl h hp
  · exact bookEven_bad v t a u b l w hb hl fun R hR => h ⟨R, hR⟩

end Go.Proofs.Ytcpfldlcocencaa
