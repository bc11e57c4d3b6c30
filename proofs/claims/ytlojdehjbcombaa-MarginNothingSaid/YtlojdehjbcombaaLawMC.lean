/-
  MarginCall, MarginNothing: the laws answer true.
-/
import Derived.Test.YtlojdehjbcombaaMarJ
namespace Go.Proofs.Ytlojdehjbcombaa
open Go.RowKit
set_option linter.unusedVariables false

def CallIs (a b c V E : Int) : Prop := ∀ w, Calls Try.prog 36 #[.int .i64 a, .int .i64 b, .int .i64 c] w fun e w' => e = .returned (.tuple #[.int .i64 V, .int .i64 E]) ∧ Kpt w w'
theorem CallIs.run {a b c V E : Int} (h : CallIs a b c V E) (w : World) : Calls Try.prog 36 #[.int .i64 a, .int .i64 b, .int .i64 c] w fun e w' => e = .returned (.tuple #[.int .i64 V, .int .i64 E]) ∧ Kpt w w' := h w

theorem mcall_no (a b c E : Int) (hE : E ≠ 0) (C : CallIs a b c 0 E) (w : World) : Calls Try.prog 10 #[.int .i64 a, .int .i64 b, .int .i64 c] w fun e w' => e = .returned (.bool true) ∧ Kpt w w' := by
  have z : (E != 0) = true := bne_iff_ne.2 hE
  have HC := Lib.hid C
  clear hE C
  go_enter Try.func10, Try.ntmps10
  go_wp2_with (first
    | (go_at_call 36; (with_reducible refine (HC.out.run _).mono ?_); rintro e w1 ⟨rfl, k1⟩; have K1 := Lib.hid k1; clear k1)
    | (go_at_call 43; (with_reducible refine (marginBegun _).mono ?_); rintro e w2 ⟨rfl, k1⟩; have K2 := Lib.hid (ktr K1.out k1); clear k1))
  go_ret
  exact ⟨rfl, K2.out⟩
theorem mcall_nil (a b c : Int) (ha : 0 ≤ a ∧ a ≤ 1152921504606846976) (hb : 0 ≤ b ∧ b ≤ 1152921504606846976) (hd : b - a < max c 1) (C : CallIs a b c 0 0) (w : World) : Calls Try.prog 10 #[.int .i64 a, .int .i64 b, .int .i64 c] w fun e w' => e = .returned (.bool true) ∧ Kpt w w' := by
  have HC := Lib.hid C
  have wn : IntKind.i64.wrap (b - a) = b - a := IntWalk.i64_in _ (by omega)
  have y := decide_eq_true hd
  clear C
  go_enter Try.func10, Try.ntmps10
  go_wp2_with (first
    | (go_at_call 36; (with_reducible refine (HC.out.run _).mono ?_); rintro e w1 ⟨rfl, k1⟩; have K1 := Lib.hid (show Kpt w w1 from (by first | exact k1 | exact ktr K2.out k1)); clear k1)
    | (go_at_call 43; (with_reducible refine (marginBegun _).mono ?_); rintro e w2 ⟨rfl, k1⟩; have K2 := Lib.hid (ktr K1.out k1); clear k1))
  go_ret
  exact ⟨rfl, K1.out⟩
theorem mcall_is (a b c d : Int) (ha : 0 ≤ a ∧ a ≤ 1152921504606846976) (hb : 0 ≤ b ∧ b ≤ 1152921504606846976) (hd : d = b - a) (h0 : 0 < d) (hc : c ≤ d) (C : CallIs a b c d 0) (D : CallIs b b c 0 0) (w : World) : Calls Try.prog 10 #[.int .i64 a, .int .i64 b, .int .i64 c] w fun e w' => e = .returned (.bool true) ∧ Kpt w w' := by
  have HC := Lib.hid C
  have HD := Lib.hid D
  have wn : IntKind.i64.wrap (a + d) = b := by rw [IntWalk.i64_in _ (by omega)]; omega
  have y1 : (d == 0) = false := beq_eq_false_iff_ne.2 (by omega)
  have y2 : decide (c ≤ d) = true := decide_eq_true hc
  have y3 : decide (0 ≤ d) = true := decide_eq_true (by omega)
  have y4 : decide (0 < d) = true := decide_eq_true h0
  clear C D hd
  go_enter Try.func10, Try.ntmps10
  go_wp2_with (first
    | (go_at_call 36; (with_reducible refine (HC.out.run _).mono ?_); rintro e w1 ⟨rfl, k1⟩; have K1 := Lib.hid k1; clear k1)
    | (go_at_call 36; (with_reducible refine (HD.out.run _).mono ?_); rintro e w3 ⟨rfl, k1⟩; have K3 := Lib.hid (ktr K2.out k1); clear k1)
    | (go_at_call 43; (with_reducible refine (marginBegun _).mono ?_); rintro e w2 ⟨rfl, k1⟩; have K2 := Lib.hid (ktr K1.out k1); clear k1))
  go_ret
  exact ⟨rfl, K3.out⟩
theorem mcall_plain (a b c : Int) (w : World) : Calls Try.prog 10 #[.int .i64 a, .int .i64 b, .int .i64 c] w fun e w' => e = .returned (.bool true) ∧ Kpt w w' := by
  have C : CallIs a b c (callV a b c) (callE a b c) := fun w => call_run a b c w
  by_cases h : sumB a = true ∧ sumB b = true ∧ sumB c = true
  · have e1 : callE a b c = 0 := if_pos h
    have e2 : callV a b c = (if b - a < c then 0 else b - a) := if_pos h
    have ha := sum_t h.1
    have hb := sum_t h.2.1
    have hc := sum_t h.2.2
    rw [e1, e2] at C
    by_cases hl : b - a < c
    · rw [if_pos hl] at C
      exact mcall_nil a b c ha hb (by omega) C w
    · rw [if_neg hl] at C
      by_cases h0 : b - a = 0
      · rw [h0] at C
        exact mcall_nil a b c ha hb (by omega) C w
      · have D : CallIs b b c (callV b b c) (callE b b c) := fun w => call_run b b c w
        have e3 : callE b b c = 0 := if_pos ⟨h.2.1, h.2.1, h.2.2⟩
        have e4 : callV b b c = 0 := by
          have : callV b b c = (if b - b < c then 0 else b - b) := if_pos ⟨h.2.1, h.2.1, h.2.2⟩
          rw [this]; split <;> omega
        rw [e3, e4] at D
        exact mcall_is a b c (b - a) ha hb rfl (by omega) (by omega) C D w
  · have e1 : callE a b c = 3 := if_neg h
    have e2 : callV a b c = 0 := if_neg h
    rw [e1, e2] at C
    exact mcall_no a b c 3 (by decide) C w

theorem spV_all {l : List (Int × Int × Int)} {ps : List Int} {at' : Int} (h : spE l ps 0 at' = 0) : spV l ps 0 at' = (stkAt l at').2.1 := by
  obtain ⟨h0, h2, ⟨h3a, h3b⟩, h4, h5⟩ := spE_0 h
  obtain ⟨⟨h40, hs⟩, hps⟩ := mcE_0 h0
  have st := stk_t (hs _ (getP_mem (ps := l) (k := at'.toNat) (by omega)))
  have hst : stkAt l at' = l.getD at'.toNat default := rfl
  rw [← hst] at st
  have b0 := wsum_bd hps hs
  have kb := kpV_bd hps (P := (stkAt l at').1) (U := (stkAt l at').2.1) (C := (stkAt l at').2.2) (most := wsum ps l - 0) (by omega) (by omega) (by omega)
  have hw : wrt ps (stkAt l at') ≤ wsum ps l := by
    have hj : at'.toNat < l.length := by omega
    have e : l = l.take at'.toNat ++ (stkAt l at' :: l.drop (at'.toNat + 1)) := by rw [hst, ← drop_p hj, List.take_append_drop]
    have b1 := wsum_bd hps (l := l.take at'.toNat) (fun p hp => hs p (List.mem_of_mem_take hp))
    have b2 := wsum_bd hps (l := l.drop (at'.toNat + 1)) (fun p hp => hs p (List.mem_of_mem_drop hp))
    have e2 : wsum ps l = wsum ps (l.take at'.toNat) + (wrt ps (stkAt l at') + wsum ps (l.drop (at'.toNat + 1))) := by
      conv => lhs; rw [e]
      rw [wsum_app, wsum_cons]
    omega
  unfold spV
  rw [if_pos h]
  have : kpV ps (stkAt l at').1 (stkAt l at').2.1 (stkAt l at').2.2 (wsum ps l - 0) = 0 := by
    rcases Nat.eq_zero_or_pos (kpV ps (stkAt l at').1 (stkAt l at').2.1 (stkAt l at').2.2 (wsum ps l - 0)) with h6 | h6
    · exact h6
    · have h7 := kb.2.2 h6
      have h8 := wrt_bd hps (s := ((stkAt l at').1, ((kpV ps (stkAt l at').1 (stkAt l at').2.1 (stkAt l at').2.2 (wsum ps l - 0) - 1 : Nat) : Int), (stkAt l at').2.2)) ⟨by simp only; omega, by simp only; omega⟩ ⟨by simp only; omega, by simp only; omega⟩
      have h9 : wrt ps ((stkAt l at').1, (stkAt l at').2.1, (stkAt l at').2.2) = wrt ps (stkAt l at') := rfl
      omega
  rw [this]; simp
theorem spE_ge (l : List (Int × Int × Int)) (ps : List Int) (a b : Int) : spE l ps a b = 0 ∨ spE l ps a b ≠ 0 := by omega
theorem callN (a c : Int) : callV a 0 c = 0 ∧ (callE a 0 c = 0 ∨ callE a 0 c = 3) := by
  unfold callV callE
  by_cases h : sumB a = true ∧ sumB 0 = true ∧ sumB c = true
  · rw [if_pos h, if_pos h]
    have ha := sum_t h.1
    have hc := sum_t h.2.2
    refine ⟨?_, .inl rfl⟩
    split <;> omega
  · rw [if_neg h, if_neg h]; exact ⟨rfl, .inr rfl⟩
theorem needN (ps : List Int) (p r : Int) : ndV [] ps p r = 0 ∧ (ndE [] ps p r = 0 ∨ ndE [] ps p r = 1 ∨ ndE [] ps p r = 3) := by
  have hV : ndV [] ps p r = 0 := by
    unfold ndV
    split
    · show (0 : Int) * r / 10000 = 0
      rw [Int.zero_mul]; rfl
    · rfl
  refine ⟨hV, ?_⟩
  have e : ndE [] ps p r = orE (prsE ps) (if rteB p r = true then 0 else 3) := orE_r rfl
  rw [e]
  unfold orE prsE
  have := prs_bd ps
  by_cases h : ps.length = 20
  · rw [if_pos h]
    split
    · split
      · exact .inl rfl
      · exact .inr (.inr rfl)
    · omega
  · rw [if_neg h]; exact .inr (.inl rfl)

set_option maxHeartbeats 2000000 in
theorem mnone_no (v u : Value) (l : List (Int × Int × Int)) (ps : List Int) (at' a c p r E f g : Int) (w : World) (hE : E ≠ 0) (hl : ReadsP w v l) (hu : Reads w u ps)
    (hf : f = 0 ∨ f = 3) (hg : g = 0 ∨ g = 1 ∨ g = 3) (S : ∀ w', Kpt w w' → SpIs v u 0 at' 0 E w') (C : CallIs a 0 c 0 f) (N : ∀ w', Kpt w w' → Calls Try.prog 35 #[.slice none 0 0, u, .int .i64 p, .int .i64 r] w' fun e w'' => e = .returned (.tuple #[.int .i64 0, .int .i64 g]) ∧ Kpt w' w'') :
    Calls Try.prog 13 #[v, u, .int .i64 at', .int .i64 a, .int .i64 c, .int .i64 p, .int .i64 r] w fun e w' => e = .returned (.bool true) ∧ Kpt w w' := by
  have z : (E == 0) = false := beq_eq_false_iff_ne.2 hE
  have HS := Lib.hid S
  have HC := Lib.hid C
  have HN := Lib.hid N
  clear S C N hE hl hu
  rcases hf with rfl | rfl <;> rcases hg with rfl | rfl | rfl
  all_goals
    go_enter Try.func13, Try.ntmps13
    go_wp2_with (first
      | (go_at_call 37; (with_reducible refine (HS.out _ (Kpt.refl w)).run.mono ?_); rintro e w1 ⟨rfl, k1⟩; have K1 := Lib.hid k1; clear k1)
      | (go_at_call 36; (with_reducible refine (HC.out.run _).mono ?_); rintro e w2 ⟨rfl, k1⟩; have K2 := Lib.hid (ktr K1.out k1); clear k1)
      | (go_at_call 35; (with_reducible refine (HN.out _ K2.out).mono ?_); rintro e w3 ⟨rfl, k1⟩; have K3 := Lib.hid (ktr K2.out k1); clear k1)
      | (go_at_call 43; (with_reducible refine (marginBegun _).mono ?_); rintro e w4 ⟨rfl, k1⟩; have K4 := Lib.hid (ktr K3.out k1); clear k1))
    go_ret
    exact ⟨rfl, K4.out⟩
set_option maxHeartbeats 2000000 in
theorem mnone_ok (b off n cap : Nat) (u : Value) (ps : List Int) (at' a c p r s f g : Int) (w : World) (ha : 0 ≤ at' ∧ at' < n) (hc1 : w.cell? ⟨b, off + at'.toNat * 3 + 1, none⟩ = some (.int .i64 s))
    (hf : f = 0 ∨ f = 3) (hg : g = 0 ∨ g = 1 ∨ g = 3) (S : ∀ w', Kpt w w' → SpIs (.slice (some ⟨b, off, none⟩) n cap) u 0 at' s 0 w') (C : CallIs a 0 c 0 f) (N : ∀ w', Kpt w w' → Calls Try.prog 35 #[.slice none 0 0, u, .int .i64 p, .int .i64 r] w' fun e w'' => e = .returned (.tuple #[.int .i64 0, .int .i64 g]) ∧ Kpt w' w'') :
    Calls Try.prog 13 #[.slice (some ⟨b, off, none⟩) n cap, u, .int .i64 at', .int .i64 a, .int .i64 c, .int .i64 p, .int .i64 r] w fun e w' => e = .returned (.bool true) ∧ Kpt w w' := by
  have HS := Lib.hid S
  have HC := Lib.hid C
  have HN := Lib.hid N
  obtain ⟨ha1, ha2⟩ := ha
  have y1 : decide (at' < 0) = false := decide_eq_false (by omega)
  have y2 : decide ((n : Int) ≤ at') = false := decide_eq_false (by omega)
  obtain ⟨j, hj⟩ : ∃ j, at'.toNat = j := ⟨_, rfl⟩
  rw [hj] at hc1
  have C1 := Lib.hid hc1
  clear S C N hc1
  rcases hf with rfl | rfl <;> rcases hg with rfl | rfl | rfl
  all_goals
    go_enter Try.func13, Try.ntmps13
    go_wp2_with (first
      | (go_at_call 37; (with_reducible refine (HS.out _ (Kpt.refl w)).run.mono ?_); rintro e w1 ⟨rfl, k1⟩; have K1 := Lib.hid k1; clear k1)
      | (go_at_call 36; (with_reducible refine (HC.out.run _).mono ?_); rintro e w2 ⟨rfl, k1⟩; have K2 := Lib.hid (ktr K1.out k1); clear k1)
      | (go_at_call 35; (with_reducible refine (HN.out _ K2.out).mono ?_); rintro e w3 ⟨rfl, k1⟩; have K3 := Lib.hid (ktr K2.out k1); clear k1)
      | (go_at_call 43; (with_reducible refine (marginBegun _).mono ?_); rintro e w4 ⟨rfl, k1⟩; have K4 := Lib.hid (ktr K3.out k1); have c1 : w4.cell? ⟨b, off + j * 3 + 1, none⟩ = some (.int .i64 s) := K4.out.cell C1.out; clear k1))
    go_ret
    exact ⟨rfl, K4.out⟩
theorem mnone_plain (v u : Value) (at' a c p r : Int) (l : List (Int × Int × Int)) (ps : List Int) (w : World) (hl : ReadsP w v l) (hu : Reads w u ps) :
    Calls Try.prog 13 #[v, u, .int .i64 at', .int .i64 a, .int .i64 c, .int .i64 p, .int .i64 r] w fun e w' => e = .returned (.bool true) ∧ Kpt w w' := by
  have S := fun w' (k : Kpt w w') => spare_any v u l ps 0 at' w' (hl.kpt k) (hu.kpt k)
  have C : CallIs a 0 c (callV a 0 c) (callE a 0 c) := fun w => call_run a 0 c w
  have N := fun w' (k : Kpt w w') => need_any (.slice none 0 0) u [] ps p r w' (readsF_nil w' none 0) (hu.kpt k)
  rw [(callN a c).1] at C
  rw [(needN ps p r).1] at N
  by_cases h : spE l ps 0 at' = 0
  · rw [h, spV_all h] at S
    obtain ⟨h0, h2, ⟨h3a, h3b⟩, h4, h5⟩ := spE_0 h
    obtain ⟨ad, cap, rfl, -, hm, -, hc⟩ := hl
    obtain ⟨b, off, rfl, q⟩ := hc at'.toNat (by omega)
    exact mnone_ok b off l.length cap u ps at' a c p r _ _ _ w ⟨h3a, h3b⟩ q.2.1 (callN a c).2 (needN ps p r).2 S C N
  · rw [show spV l ps 0 at' = 0 from if_neg h] at S
    exact mnone_no v u l ps at' a c p r _ _ _ w h hl hu (callN a c).2 (needN ps p r).2 S C N

end Go.Proofs.Ytlojdehjbcombaa
