/-
  What the reference says of postings and books: PostingsCheck, BookLines, AmountAt.
-/
import Derived.Test.YtcpfldlcocencaaRefBook
namespace Go.Proofs.Ytcpfldlcocencaa
open Go.RowKit
set_option linter.unusedVariables false

theorem rchk_none (a : Option Addr) (cap : Nat) (w : World) : Calls Try.prog 17 #[.slice a 0 cap] w fun e w' => e = .returned (.int .i64 1) ∧ Kpt w w' := by
  go_enter Try.func17, Try.ntmps17
  go_wp2
  go_ret
  exact ⟨rfl, Kpt.refl _⟩
theorem rchk_many (a : Option Addr) (n cap : Nat) (hn : 60 < n) (hb : n ≤ maxLen) (w : World) : Calls Try.prog 17 #[.slice a n cap] w fun e w' => e = .returned (.int .i64 2) ∧ Kpt w w' := by
  unfold maxLen at hb
  have h0 : ((n : Int) == 0) = false := beq_eq_false_iff_ne.2 (by omega)
  have h1 : (60 : Int) < (n : Int) := by omega
  go_enter Try.func17, Try.ntmps17
  go_wp2
  go_ret
  exact ⟨rfl, Kpt.refl _⟩
set_option maxHeartbeats 2000000 in
theorem rchk_some (v : Value) (l : List (Int × Int × Int)) (w : World) (hr : ReadsP w v l) (h0 : 0 < l.length) (hm : l.length ≤ 60) : Calls Try.prog 17 #[v] w fun e w' => e = .returned (.int .i64 (chkE l)) ∧ Kpt w w' := by
  have RL := Lib.hid hr
  obtain ⟨a, cap, rfl, -, -, -, hc⟩ := hr
  have HC := Lib.hid hc
  have n0 : ((l.length : Int) == 0) = false := beq_eq_false_iff_ne.2 (by omega)
  clear hc
  have HE : Hid (chkE l = if l.all ptB then (if evnB l then 0 else 4) else 3) := by
    unfold Hid chkE
    rw [if_neg (List.length_pos_iff.1 h0), if_neg (by omega)]
  go_enter Try.func17, Try.ntmps17
  go_wp2
  go_loopw [3] (fun i wr => ∃ k : Nat, k ≤ l.length ∧ i = .int .i64 k ∧ Hid (∀ j, j < k → ptB (l.getD j default) = true) ∧ Hid (Kpt w wr)) (fun i _ => l.length - (intOf i).toNat)
  case atStart => exact ⟨0, Nat.zero_le _, rfl, (fun x hx => absurd hx (Nat.not_lt_zero x)), Kpt.refl _⟩
  case round =>
    obtain ⟨k, hk, rfl, HZ, HJ⟩ := hrel
    by_cases hlt : k < l.length
    · obtain ⟨x, off, rfl, c0, c1, c2⟩ := HC.out k hlt
      have d0 := HJ.out.cell c0
      have d1 := HJ.out.cell c1
      have d2 := HJ.out.cell c2
      have HX : Hid (ptB (l.getD k default) = true → ∀ j, j < k + 1 → ptB (l.getD j default) = true) := fun hp j hj => by
        rcases Nat.lt_or_ge j k with h | h
        · exact HZ.out j h
        · obtain rfl : j = k := by omega
          exact hp
      have HN : Hid (ptB (l.getD k default) = false → chkE l = 3) := fun hp => by rw [HE.out, all_no hlt hp]; rfl
      clear c0 c1 c2
      generalize l.getD k default = p at d0 d1 d2 HX HN
      obtain ⟨A, U, N⟩ := p
      simp only at d0 d1 d2
      cases hB : ptB (A, U, N) with
      | true =>
        have PR := Lib.hid (fun w => right_t A U N w hB)
        have HX2 := Lib.hid (HX.out hB)
        clear hB
        go_wp2_with (go_at_call 37; (with_reducible refine (PR.out _).mono ?_); rintro e w1 ⟨rfl, k1⟩; have K1 := Lib.hid (ktr HJ.out k1); clear k1)
        go_roundw
        case rel => exact ⟨k + 1, by omega, by go_num, HX2.out, K1.out⟩
        case measure => simp [intOf]; omega
      | false =>
        have PR := Lib.hid (fun w => right_f A U N w hB)
        have HX2 := Lib.hid (HN.out hB)
        clear hB
        go_wp2_with (go_at_call 37; (with_reducible refine (PR.out _).mono ?_); rintro e w1 ⟨rfl, k1⟩; have K1 := Lib.hid (ktr HJ.out k1); clear k1)
        go_ret
        exact ⟨ret_int HX2.out.symm, K1.out⟩
    · obtain rfl : k = l.length := by omega
      have hp : ∀ p ∈ l, ptB p = true := fun p hp => by
        obtain ⟨i, hi, rfl⟩ := List.mem_iff_getElem.1 hp
        have := HZ.out i hi
        rwa [List.getD_eq_getElem?_getD, List.getElem?_eq_getElem hi] at this
      have ER := Lib.hid (fun w hr => even_run (.slice a l.length cap) l w hr (by omega) hp)
      have HF : Hid (chkE l = if evnB l then 0 else 4) := by unfold Hid; rw [HE.out, if_pos (List.all_eq_true.2 hp)]
      clear hp
      cases hE : evnB l with
      | true =>
        rw [hE] at ER
        have HG : Hid (chkE l = 0) := by unfold Hid; rw [HF.out, hE]; rfl
        clear hE
        go_wp2_with (go_at_call 38; (with_reducible refine (ER.out _ (RL.out.kpt HJ.out)).mono ?_); rintro e w1 ⟨rfl, k1⟩; have K1 := Lib.hid (ktr HJ.out k1); clear k1)
        go_ret
        exact ⟨ret_int HG.out.symm, K1.out⟩
      | false =>
        rw [hE] at ER
        have HG : Hid (chkE l = 4) := by unfold Hid; rw [HF.out, hE]; rfl
        clear hE
        go_wp2_with (go_at_call 38; (with_reducible refine (ER.out _ (RL.out.kpt HJ.out)).mono ?_); rintro e w1 ⟨rfl, k1⟩; have K1 := Lib.hid (ktr HJ.out k1); clear k1)
        go_ret
        exact ⟨ret_int HG.out.symm, K1.out⟩
theorem rchk_any (v : Value) (l : List (Int × Int × Int)) (w : World) (hr : ReadsP w v l) : Calls Try.prog 17 #[v] w fun e w' => e = .returned (.int .i64 (chkE l)) ∧ Kpt w w' := by
  by_cases h0 : 0 < l.length
  · by_cases hm : l.length ≤ 60
    · exact rchk_some v l w hr h0 hm
    · have hl := hr.len
      obtain ⟨a, cap, rfl, -⟩ := hr
      have e : chkE l = 2 := by unfold chkE; rw [if_neg (List.length_pos_iff.1 h0), if_pos (by omega)]
      rw [e]
      exact rchk_many a _ cap (by omega) hl w
  · obtain rfl : l = [] := List.eq_nil_of_length_eq_zero (by omega)
    obtain ⟨a, cap, rfl, -⟩ := hr
    exact rchk_none a cap w

theorem rlines_many (a : Option Addr) (n cap : Nat) (hn : 400 < n) (hb : n ≤ maxLen) (w : World) : Calls Try.prog 15 #[.slice a n cap] w fun e w' => e = .returned (.int .i64 2) ∧ Kpt w w' := by
  unfold maxLen at hb
  have h1 : (400 : Int) < (n : Int) := by omega
  go_enter Try.func15, Try.ntmps15
  go_wp2
  go_ret
  exact ⟨rfl, Kpt.refl _⟩

/-- the place of the line ahead -/
def ahead1 (l : List (Int × Int × Int)) : Nat → Int
  | 0 => -1
  | k + 1 => plc (l.getD k default)
theorem plc_lt {A U N A' U' N' : Int} (h : ptB (A, U, N) = true) (h' : ptB (A', U', N') = true) : plc (A, U, N) ≤ plc (A', U', N') ↔ (A < A' ∨ (A = A' ∧ U ≤ U')) := by
  have h1 := pt_t h; have h2 := pt_t h'
  unfold plc
  simp only at *
  omega

set_option maxRecDepth 100000 in
set_option maxHeartbeats 8000000 in
theorem rlines_some (v : Value) (l : List (Int × Int × Int)) (w : World) (hr : ReadsP w v l) (hm : l.length ≤ 400) : Calls Try.prog 15 #[v] w fun e w' => e = .returned (.int .i64 (linE l)) ∧ Kpt w w' := by
  have RL := Lib.hid hr
  obtain ⟨a, cap, rfl, -, -, -, hc⟩ := hr
  have HC := Lib.hid hc
  clear hc
  have HE : Hid (linE l = if ordE (-1) l = 0 then (if evnB l then 0 else 4) else ordE (-1) l) := by
    unfold Hid linE
    rw [if_neg (by omega)]
  go_enter Try.func15, Try.ntmps15
  go_wp2
  go_loopw [3] (fun i wr => ∃ k : Nat, k ≤ l.length ∧ i = .int .i64 k ∧ Hid (∀ j, j < k → ptB (l.getD j default) = true) ∧ Hid (ordE (-1) l = ordE (ahead1 l k) (l.drop k)) ∧ Hid (Kpt w wr)) (fun i _ => l.length - (intOf i).toNat)
  case atStart => exact ⟨0, Nat.zero_le _, rfl, (fun x hx => absurd hx (Nat.not_lt_zero x)), rfl, Kpt.refl _⟩
  case round =>
    obtain ⟨k, hk, rfl, HZ, HO, HJ⟩ := hrel
    by_cases hlt : k < l.length
    · obtain ⟨x, off, rfl, c0, c1, c2⟩ := HC.out k hlt
      have d0 := HJ.out.cell c0
      have d1 := HJ.out.cell c1
      have d2 := HJ.out.cell c2
      have hd := drop_getD hlt
      have HX : Hid (ptB (l.getD k default) = true → ∀ j, j < k + 1 → ptB (l.getD j default) = true) := fun hp j hj => by
        rcases Nat.lt_or_ge j k with h | h
        · exact HZ.out j h
        · obtain rfl : j = k := by omega
          exact hp
      have HP : Hid (ahead1 l (k + 1) = plc (l.getD k default)) := rfl
      clear c0 c1 c2
      generalize l.getD k default = p at d0 d1 d2 hd HX HP
      have HD : Hid (ordE (-1) l = ordE (ahead1 l k) (p :: l.drop (k + 1))) := by unfold Hid; rw [HO.out, hd]
      clear hd
      obtain ⟨A, U, N⟩ := p
      simp only at d0 d1 d2
      cases hB : ptB (A, U, N) with
      | false =>
        have PR := Lib.hid (fun w => right_f A U N w hB)
        have HX2 : Hid (linE l = 3) := by unfold Hid; rw [HE.out, HD.out, ord_no hB]; rfl
        clear hB
        go_wp2_with (go_at_call 37; (with_reducible refine (PR.out _).mono ?_); rintro e w1 ⟨rfl, k1⟩; have K1 := Lib.hid (ktr HJ.out k1); clear k1)
        go_ret
        exact ⟨ret_int HX2.out.symm, K1.out⟩
      | true =>
        have PR := Lib.hid (fun w => right_t A U N w hB)
        have HX2 := Lib.hid (HX.out hB)
        have HB := Lib.hid hB
        clear hB
        by_cases hk0 : k = 0
        · subst hk0
          simp only [Nat.zero_mul, Nat.add_zero] at d0 d1 d2
          have HN : Hid (ordE (-1) l = ordE (ahead1 l (0 + 1)) (l.drop (0 + 1))) := by
            unfold Hid
            rw [HD.out, HP.out]
            exact ord_ok HB.out (by have := pt_t HB.out; unfold ahead1 plc; simp only at *; omega)
          go_wp2_with (go_at_call 37; (with_reducible refine (PR.out _).mono ?_); rintro e w1 ⟨rfl, k1⟩; have K1 := Lib.hid (ktr HJ.out k1); clear k1)
          go_quiet (fail)
          go_wp2
          go_roundw
          case rel => exact ⟨1, by omega, by go_num, HX2.out, HN.out, K1.out.drewN _⟩
          case measure => simp [intOf]; omega
        · obtain ⟨m, hkm⟩ : ∃ m, k = m + 1 := ⟨k - 1, by omega⟩
          obtain ⟨x', off', e, hq⟩ := HC.out m (by omega)
          injection e with e
          injection e with e1 e2
          subst e1; subst e2
          obtain ⟨e0, e1, -⟩ := hq.kpt HJ.out
          have HQ := Lib.hid (HZ.out m (by omega))
          have HA : Hid (ahead1 l k = plc (l.getD m default)) := by unfold Hid; rw [hkm]; rfl
          generalize l.getD m default = q at e0 e1 HQ HA
          obtain ⟨A', U', N'⟩ := q
          simp only at e0 e1
          have hpl := plc_lt HB.out HQ.out
          have hw : IntKind.i64.wrap ((k : Int) - 1) = (m : Int) := by rw [IntWalk.i64_in _ (by omega)]; omega
          have kn : 0 < k := by omega
          have k0 : (0 : Int) < (k : Int) := by omega
          have k1' : (0 : Int) ≤ (k : Int) := by omega
          have k2 : (k : Int) < (l.length : Int) := by omega
          have m0 : (0 : Int) ≤ (m : Int) := by omega
          have m1 : (m : Int) < (l.length : Int) := by omega
          have HKM := Lib.hid hkm
          clear hkm hq
          by_cases h1 : A < A'
          · have HN : Hid (linE l = 4) := by unfold Hid; rw [HE.out, HD.out, HA.out, ord_st HB.out (hpl.2 (.inl h1))]; rfl
            clear hpl
            go_wp2_with (go_at_call 37; (with_reducible refine (PR.out _).mono ?_); rintro e w1 ⟨rfl, k1⟩; have K1 := Lib.hid (ktr HJ.out k1); have y0 := k1.cell d0; have y1 := k1.cell d1; have z0 := k1.cell e0; have z1 := k1.cell e1; clear k1)
            go_quiet (fail)
            go_wp2
            go_ret
            exact ⟨ret_int HN.out.symm, K1.out.drewN _⟩
          · have g1 : decide (A < A') = false := decide_eq_false h1
            by_cases h2 : A = A'
            · have g2 : (A == A') = true := beq_iff_eq.2 h2
              by_cases h3 : U ≤ U'
              · have HN : Hid (linE l = 4) := by unfold Hid; rw [HE.out, HD.out, HA.out, ord_st HB.out (hpl.2 (.inr ⟨h2, h3⟩))]; rfl
                clear hpl h2
                go_wp2_with (go_at_call 37; (with_reducible refine (PR.out _).mono ?_); rintro e w1 ⟨rfl, k1⟩; have K1 := Lib.hid (ktr HJ.out k1); have y0 := k1.cell d0; have y1 := k1.cell d1; have z0 := k1.cell e0; have z1 := k1.cell e1; clear k1)
                go_quiet (fail)
                go_wp2
                go_ret
                exact ⟨ret_int HN.out.symm, K1.out.drewN _⟩
              · have g3 : decide (U ≤ U') = false := decide_eq_false h3
                have HN : Hid (ordE (-1) l = ordE (ahead1 l (k + 1)) (l.drop (k + 1))) := by
                  unfold Hid
                  rw [HD.out, HP.out, HA.out]
                  exact ord_ok HB.out (by have := mt hpl.1 (by omega); omega)
                clear hpl h2
                go_wp2_with (go_at_call 37; (with_reducible refine (PR.out _).mono ?_); rintro e w1 ⟨rfl, k1⟩; have K1 := Lib.hid (ktr HJ.out k1); have y0 := k1.cell d0; have y1 := k1.cell d1; have z0 := k1.cell e0; have z1 := k1.cell e1; clear k1)
                go_quiet (fail)
                go_wp2
                go_roundw
                case rel => exact ⟨k + 1, by omega, by go_num, HX2.out, HN.out, K1.out.drewN _⟩
                case measure => simp [intOf]; omega
            · have g2 : (A == A') = false := beq_eq_false_iff_ne.2 h2
              have HN : Hid (ordE (-1) l = ordE (ahead1 l (k + 1)) (l.drop (k + 1))) := by
                unfold Hid
                rw [HD.out, HP.out, HA.out]
                exact ord_ok HB.out (by have := mt hpl.1 (by omega); omega)
              clear hpl h2
              go_wp2_with (go_at_call 37; (with_reducible refine (PR.out _).mono ?_); rintro e w1 ⟨rfl, k1⟩; have K1 := Lib.hid (ktr HJ.out k1); have y0 := k1.cell d0; have y1 := k1.cell d1; have z0 := k1.cell e0; have z1 := k1.cell e1; clear k1)
              go_quiet (fail)
              go_wp2
              go_roundw
              case rel => exact ⟨k + 1, by omega, by go_num, HX2.out, HN.out, K1.out.drewN _⟩
              case measure => simp [intOf]; omega
    · obtain rfl : k = l.length := by omega
      have hp : ∀ p ∈ l, ptB p = true := fun p hp => by
        obtain ⟨i, hi, rfl⟩ := List.mem_iff_getElem.1 hp
        have := HZ.out i hi
        rwa [List.getD_eq_getElem?_getD, List.getElem?_eq_getElem hi] at this
      have ER := Lib.hid (fun w hr => even_run (.slice a l.length cap) l w hr (by omega) hp)
      have HF : Hid (linE l = if evnB l then 0 else 4) := by
        unfold Hid
        rw [HE.out, if_pos]
        rw [HO.out, List.drop_eq_nil_of_le (Nat.le_refl _)]
        rfl
      clear hp
      cases hE : evnB l with
      | true =>
        rw [hE] at ER
        have HG : Hid (linE l = 0) := by unfold Hid; rw [HF.out, hE]; rfl
        clear hE
        go_wp2_with (go_at_call 38; (with_reducible refine (ER.out _ (RL.out.kpt HJ.out)).mono ?_); rintro e w1 ⟨rfl, k1⟩; have K1 := Lib.hid (ktr HJ.out k1); clear k1)
        go_ret
        exact ⟨ret_int HG.out.symm, K1.out⟩
      | false =>
        rw [hE] at ER
        have HG : Hid (linE l = 4) := by unfold Hid; rw [HF.out, hE]; rfl
        clear hE
        go_wp2_with (go_at_call 38; (with_reducible refine (ER.out _ (RL.out.kpt HJ.out)).mono ?_); rintro e w1 ⟨rfl, k1⟩; have K1 := Lib.hid (ktr HJ.out k1); clear k1)
        go_ret
        exact ⟨ret_int HG.out.symm, K1.out⟩
theorem rlines_any (v : Value) (l : List (Int × Int × Int)) (w : World) (hr : ReadsP w v l) : Calls Try.prog 15 #[v] w fun e w' => e = .returned (.int .i64 (linE l)) ∧ Kpt w w' := by
  by_cases hm : l.length ≤ 400
  · exact rlines_some v l w hr hm
  · have hl := hr.len
    obtain ⟨a, cap, rfl, -⟩ := hr
    have e : linE l = 2 := by unfold linE; rw [if_pos (by omega)]
    rw [e]
    exact rlines_many a _ cap (by omega) hl w

set_option maxHeartbeats 2000000 in
theorem ramt_run (v : Value) (l : List (Int × Int × Int)) (a' u : Int) (w : World) (hr : ReadsP w v l) : Calls Try.prog 16 #[v, .int .i64 a', .int .i64 u] w fun e w' => e = .returned (.int .i64 (balF l a' u)) ∧ Kpt w w' := by
  have hl := hr.len
  unfold maxLen at hl
  obtain ⟨a, cap, rfl, -, -, -, hc⟩ := hr
  have HC := Lib.hid hc
  clear hc
  go_enter Try.func16, Try.ntmps16
  go_wp2
  go_loopw [7] (fun i wr => ∃ k : Nat, k ≤ l.length ∧ i = .int .i64 k ∧ Hid (balF l a' u = balF (l.drop k) a' u) ∧ Hid (Kpt w wr)) (fun i _ => l.length - (intOf i).toNat)
  case atStart => exact ⟨0, Nat.zero_le _, rfl, rfl, Kpt.refl _⟩
  case round =>
    obtain ⟨k, hk, rfl, HA, HJ⟩ := hrel
    by_cases hlt : k < l.length
    · obtain ⟨x, off, rfl, c0, c1, c2⟩ := HC.out k hlt
      have d0 := HJ.out.cell c0
      have d1 := HJ.out.cell c1
      have d2 := HJ.out.cell c2
      have hd := drop_getD hlt
      clear c0 c1 c2
      generalize l.getD k default = p at d0 d1 d2 hd
      have HD : Hid (balF l a' u = balF (p :: l.drop (k + 1)) a' u) := by unfold Hid; rw [HA.out, hd]
      clear hd
      obtain ⟨A, U, N⟩ := p
      simp only at d0 d1 d2
      by_cases h1 : A = a'
      · have q1 : (A == a') = true := beq_iff_eq.2 h1
        by_cases h2 : U = u
        · have HX := Lib.hid (bal_here (p := (A, U, N)) (l := l.drop (k + 1)) h1 h2)
          have q2 : (U == u) = true := beq_iff_eq.2 h2
          clear h1 h2
          go_wp2
          go_ret
          exact ⟨ret_int (by rw [HD.out, HX.out]), HJ.out⟩
        · have HX := Lib.hid (bal_next (p := (A, U, N)) (l := l.drop (k + 1)) (a := a') (u := u) (fun q => h2 q.2))
          have q2 : (U == u) = false := beq_eq_false_iff_ne.2 h2
          clear h1 h2
          go_wp2
          go_roundw
          case rel => exact ⟨k + 1, by omega, by go_num, by unfold Hid; rw [HD.out, HX.out], HJ.out⟩
          case measure => simp [intOf]; omega
      · have HX := Lib.hid (bal_next (p := (A, U, N)) (l := l.drop (k + 1)) (a := a') (u := u) (fun q => h1 q.1))
        have q1 : (A == a') = false := beq_eq_false_iff_ne.2 h1
        clear h1
        go_wp2
        go_roundw
        case rel => exact ⟨k + 1, by omega, by go_num, by unfold Hid; rw [HD.out, HX.out], HJ.out⟩
        case measure => simp [intOf]; omega
    · have HZ : Hid (balF l a' u = 0) := by unfold Hid; rw [HA.out, List.drop_eq_nil_of_le (by omega)]; rfl
      go_wp2
      go_ret
      exact ⟨ret_int HZ.out.symm, HJ.out⟩

end Go.Proofs.Ytcpfldlcocencaa
