/-
  MarginValue: the law answers true.
-/
import Derived.Test.YtlojdehjbcombaaLawMS
namespace Go.Proofs.Ytlojdehjbcombaa
open Go.RowKit
set_option linter.unusedVariables false

def ValIs (v u : Value) (w : World) (V E : Int) : Prop := ∀ w', Kpt w w' → Calls Try.prog 34 #[v, u] w' fun e w'' => e = .returned (.tuple #[.int .i64 V, .int .i64 E]) ∧ Kpt w' w''
theorem ValIs.run {v u : Value} {w : World} {V E : Int} (h : ValIs v u w V E) (w' : World) (k : Kpt w w') : Calls Try.prog 34 #[v, u] w' fun e w'' => e = .returned (.tuple #[.int .i64 V, .int .i64 E]) ∧ Kpt w' w'' := h w' k
/-- the first k stakes, counting nothing -/
def noL (l : List (Int × Int × Int)) (k : Nat) : List (Int × Int × Int) := (l.take k).map fun p => (p.1, p.2.1, 0)
theorem noL_s {l : List (Int × Int × Int)} {k : Nat} (hk : k < l.length) : noL l (k + 1) = noL l k ++ [((l.getD k default).1, (l.getD k default).2.1, 0)] := by
  unfold noL
  rw [List.take_succ_eq_append_getElem hk, List.map_append, List.getD_eq_getElem?_getD, List.getElem?_eq_getElem hk]; rfl
theorem noL_len (l : List (Int × Int × Int)) (k : Nat) : (noL l k).length ≤ l.length := by
  unfold noL; rw [List.length_map, List.length_take]; omega
theorem noL_ok {l : List (Int × Int × Int)} (h : ∀ p ∈ l, stkB p = true) (k : Nat) : ∀ p ∈ noL l k, stkB p = true := by
  intro p hp
  obtain ⟨q, hq, rfl⟩ := List.mem_map.1 hp
  have := stk_t (h q (List.mem_of_mem_take hq))
  exact decide_eq_true (by simp only; omega)
theorem noL_sum (ps : List Int) (l : List (Int × Int × Int)) (k : Nat) : wsum ps (noL l k) = 0 := by
  unfold noL
  induction l.take k with
  | nil => rfl
  | cons p t ih => rw [List.map_cons, wsum_cons, wrt_c, ih]; rfl
theorem val_0 {l : List (Int × Int × Int)} {ps : List Int} (h : valE l ps = 0) : (l.length ≤ 40 ∧ (∀ p ∈ l, stkB p = true)) ∧ PrsOk ps ∧ prsE ps = 0 ∧ valV l ps = wsum ps l ∧ amtB (wsum ps l) = true := by
  obtain ⟨h1, h2⟩ := orE_0 h
  obtain ⟨h3, h4⟩ := mcE_0 h1
  have h5 : amtB (wsum ps l) = true := by
    cases c : amtB (wsum ps l) with
    | true => rfl
    | false => rw [(am_no c).2] at h2; cases h2
  exact ⟨h3, h4, (orE_0 h1).2, by unfold valV; rw [if_pos h1, (am_ok h5).1], h5⟩
theorem val_no {l : List (Int × Int × Int)} {ps : List Int} (h : valE l ps ≠ 0) : valV l ps = 0 := by
  unfold valV
  by_cases h1 : mcE l ps = 0
  · rw [if_pos h1]
    have : valE l ps = amE (wsum ps l) := orE_r h1
    rw [this] at h
    unfold amV
    rw [if_neg]
    intro c
    exact h (am_ok c).2
  · rw [if_neg h1]
/-- of both lists together -/
theorem val_both {l m : List (Int × Int × Int)} {ps : List Int} (h : valE l ps = 0) (g : valE m ps = 0) : valE (l ++ m) ps = 2 ∨ valE (l ++ m) ps = 8 ∨ (valE (l ++ m) ps = 0 ∧ valV (l ++ m) ps = valV l ps + valV m ps) := by
  obtain ⟨⟨a1, a2⟩, a3, a4, a5, a6⟩ := val_0 h
  obtain ⟨⟨b1, b2⟩, b3, b4, b5, b6⟩ := val_0 g
  have hs : ∀ p ∈ l ++ m, stkB p = true := fun p hp => by
    rcases List.mem_append.1 hp with hp | hp
    · exact a2 p hp
    · exact b2 p hp
  by_cases h40 : 40 < (l ++ m).length
  · left
    have e : stkE (l ++ m) = 2 := if_pos h40
    show orE (orE (stkE (l ++ m)) (prsE ps)) _ = 2
    rw [e]; rfl
  · have e : mcE (l ++ m) ps = 0 := by
      unfold mcE
      rw [orE_r (stkE_mk (by omega) hs), a4]
    have e2 : valE (l ++ m) ps = amE (wsum ps (l ++ m)) := orE_r e
    have e3 : valV (l ++ m) ps = amV (wsum ps (l ++ m)) := if_pos e
    rw [e2, e3, a5, b5, wsum_app]
    cases c : amtB (wsum ps l + wsum ps m) with
    | true => right; right; exact ⟨(am_ok c).2, (am_ok c).1⟩
    | false => right; left; exact (am_no c).2
theorem val_none {l : List (Int × Int × Int)} {ps : List Int} (h : valE l ps = 0) : valE (noL l l.length) ps = 0 ∧ valV (noL l l.length) ps = 0 := by
  obtain ⟨⟨a1, a2⟩, a3, a4, a5, a6⟩ := val_0 h
  have e : mcE (noL l l.length) ps = 0 := by
    unfold mcE
    rw [orE_r (stkE_mk (by have := noL_len l l.length; omega) (noL_ok a2 _)), a4]
  have c : amtB (wsum ps (noL l l.length)) = true := by rw [noL_sum]; rfl
  refine ⟨?_, ?_⟩
  · show orE _ _ = 0
    rw [orE_r e]; exact (am_ok c).2
  · unfold valV; rw [if_pos e, (am_ok c).1, noL_sum]

theorem mval_no (v t u : Value) (w : World) (A E B F : Int) (h : E ≠ 0 ∨ F ≠ 0) (hA : E ≠ 0 → A = 0) (V1 : ValIs v u w A E) (V2 : ValIs t u w B F) :
    Calls Try.prog 12 #[v, t, u] w fun e w' => e = .returned (.bool true) ∧ Kpt w w' := by
  have HV1 := Lib.hid V1
  have HV2 := Lib.hid V2
  have K0 : Hid (Kpt w w) := Kpt.refl w
  clear V1 V2
  by_cases hE : E = 0
  · have hF : F ≠ 0 := by omega
    have z1 : (E == 0) = true := beq_iff_eq.2 hE
    have z2 : (E != 0) = false := by simpa using hE
    have z3 : (F != 0) = true := bne_iff_ne.2 hF
    clear hE hF h hA
    go_enter Try.func12, Try.ntmps12
    go_wp2_with (first
      | (go_at_call 34; (with_reducible refine (HV1.out.run _ K0.out).mono ?_); rintro e w1 ⟨rfl, k1⟩; have K1 := Lib.hid k1; clear k1 HV1)
      | (go_at_call 34; (with_reducible refine (HV2.out.run _ K1.out).mono ?_); rintro e w2 ⟨rfl, k1⟩; have K2 := Lib.hid (ktr K1.out k1); clear k1)
      | (go_at_call 43; (with_reducible refine (marginBegun _).mono ?_); rintro e w3 ⟨rfl, k1⟩; have K3 := Lib.hid (ktr K2.out k1); clear k1))
    go_ret
    exact ⟨rfl, K3.out⟩
  · have z1 : (E == 0) = false := beq_eq_false_iff_ne.2 hE
    have z2 : (E != 0) = true := bne_iff_ne.2 hE
    obtain rfl := hA hE
    clear hE h hA
    go_enter Try.func12, Try.ntmps12
    go_wp2_with (first
      | (go_at_call 34; (with_reducible refine (HV1.out.run _ K0.out).mono ?_); rintro e w1 ⟨rfl, k1⟩; have K1 := Lib.hid k1; clear k1 HV1)
      | (go_at_call 34; (with_reducible refine (HV2.out.run _ K1.out).mono ?_); rintro e w2 ⟨rfl, k1⟩; have K2 := Lib.hid (ktr K1.out k1); clear k1)
      | (go_at_call 43; (with_reducible refine (marginBegun _).mono ?_); rintro e w3 ⟨rfl, k1⟩; have K3 := Lib.hid (ktr K2.out k1); clear k1))
    go_ret
    exact ⟨rfl, K3.out⟩

set_option maxRecDepth 100000 in
set_option maxHeartbeats 4000000 in
theorem mval_ok (v t u : Value) (l m : List (Int × Int × Int)) (w : World) (A B C G : Int) (hl : ReadsP w v l) (ht : ReadsP w t m) (l40 : l.length ≤ 40) (m40 : m.length ≤ 40) (hs : ∀ p ∈ l, stkB p = true) (hm2 : ∀ p ∈ m, stkB p = true)
    (hA : -1152921504606846976 ≤ A ∧ A ≤ 1152921504606846976) (hB : -1152921504606846976 ≤ B ∧ B ≤ 1152921504606846976) (hG : G = 2 ∨ G = 8 ∨ (G = 0 ∧ C = A + B))
    (V1 : ValIs v u w A 0) (V2 : ValIs t u w B 0) (V3 : ∀ w' v', Kpt w w' → ReadsP w' v' (l ++ m) → ValIs v' u w' C G) (V4 : ∀ w' v', Kpt w w' → ReadsP w' v' (noL l l.length) → ValIs v' u w' 0 0) :
    Calls Try.prog 12 #[v, t, u] w fun e w' => e = .returned (.bool true) ∧ Kpt w w' := by
  have HV1 := Lib.hid V1
  have HV2 := Lib.hid V2
  have HV3 := Lib.hid V3
  have HV4 := Lib.hid V4
  have K0 : Hid (Kpt w w) := Kpt.refl w
  have wn : IntKind.i64.wrap (A + B) = A + B := IntWalk.i64_in _ (by omega)
  have RL := Lib.hid hl
  have RM := Lib.hid ht
  have IPB := Lib.hid (show InP (l ++ m) from stk_inp (fun p hp => by
    rcases List.mem_append.1 hp with hp | hp
    · exact hs p hp
    · exact hm2 p hp))
  have IPN := Lib.hid (fun k => stk_inp (noL_ok hs k))
  have HS := Lib.hid hs
  have HLS := Lib.hid (fun k (h : k < l.length) => noL_s h)
  have HLN := Lib.hid (noL_len l)
  have HM := Lib.hid (fun k (h : k < l.length) => (getP_mem h : l.getD k default ∈ l))
  obtain ⟨a, cap, rfl, -, hm, -, hc⟩ := hl
  obtain ⟨a2, cap2, rfl, -, -, -, -⟩ := ht
  unfold maxLen at hm
  have HC := Lib.hid hc
  obtain ⟨n, hn⟩ : ∃ n, n = l.length := ⟨_, rfl⟩
  rw [← hn] at HC hm HM HLS HLN l40 HV1 RL HV4 ⊢
  have HN := Lib.hid hn
  have L40 := Lib.hid l40
  have M40 := Lib.hid m40
  clear hc hn V1 V2 V3 V4 hs hm2 hA hB l40 m40
  obtain ⟨n2, hn2⟩ : ∃ n2, n2 = m.length := ⟨_, rfl⟩
  rw [← hn2] at HV2 RM M40 ⊢
  have HN2 := Lib.hid hn2
  clear hn2
  have fin : ∃ b1 b2 b3 : Bool, (G == 2) = b1 ∧ (G == 8) = b2 ∧ (b1 = false → b2 = false → (G == 0) = true ∧ (C == A + B) = true) := by
    rcases hG with rfl | rfl | ⟨rfl, rfl⟩
    · exact ⟨true, false, false, rfl, rfl, fun h => by cases h⟩
    · exact ⟨false, true, false, rfl, rfl, fun _ h => by cases h⟩
    · exact ⟨false, false, false, rfl, rfl, fun _ _ => ⟨rfl, by simp⟩⟩
  clear hG
  go_enter Try.func12, Try.ntmps12
  go_wp2_with (first
    | (go_at_call 34; (with_reducible refine (HV1.out.run _ K0.out).mono ?_); rintro e w1 ⟨rfl, k1⟩; have K1 := Lib.hid k1; clear k1 HV1)
    | (go_at_call 34; (with_reducible refine (HV2.out.run _ K1.out).mono ?_); rintro e w2 ⟨rfl, k1⟩; have K2 := Lib.hid (ktr K1.out k1); clear k1 HV2)
    | (go_at_call 43; (with_reducible refine (marginBegun _).mono ?_); rintro e w3 ⟨rfl, k1⟩; have K3 := Lib.hid (ktr K2.out k1); clear k1)
    | (at_builtin; refine wp_appendS rfl (.tmp 45) (.tmp 46) rfl w3.heap.size _ _ [] l _ rfl (OwnsT.empty _ w3 w3.heap.size (Nat.le_refl _)) rfl ((RL.out.kpt K3.out).kpt ((Kpt.refl _).alloc _)) (by have := L40.out; have := HN.out; simp; omega) (by simp) ?_; intro v4 w4 ho4 hb4; have O4 := Lib.hid ho4; have M4 : Hid (Kpt w3 w4) := Lib.hid (Below.trans ((Kpt.refl w3).alloc _) hb4); have K4 := Lib.hid (ktr K3.out M4.out); clear ho4 hb4)
    | (at_builtin; refine wp_appendS rfl (.tmp 47) (.tmp 48) rfl w3.heap.size _ _ ([] ++ l) m _ rfl O4.out rfl (RM.out.kpt K4.out) (by have := L40.out; have := M40.out; have := HN.out; have := HN2.out; simp; omega) M4.out.size ?_; intro v5 w5 ho5 hb5; have O5 := Lib.hid ho5; have M5 : Hid (Kpt w3 w5) := Lib.hid (Below.trans M4.out hb5); have K5 := Lib.hid (ktr K3.out M5.out); clear ho5 hb5 O4 M4 K4)
    | (go_at_call 34; (with_reducible refine ((HV3.out _ _ K5.out (OwnsT.reads O5.out IPB.out)).run _ (Kpt.refl _)).mono ?_); rintro e w6 ⟨rfl, k1⟩; have K6 := Lib.hid (ktr K5.out k1); clear k1 HV3 O5))
  go_loopw [13, 14] (fun lv ii wr => ∃ k : Nat, k ≤ n ∧ ii = .int .i64 (k : Int) ∧ Hid (OwnsT 68 wr w6.heap.size lv (noL l k)) ∧ Hid (Kpt w6 wr)) (fun _ ii _ => n - (intOf ii).toNat)
  case atStart => exact ⟨0, Nat.zero_le _, rfl, OwnsT.nil _ _ _, Kpt.refl w6⟩
  case round =>
    obtain ⟨k, hk, rfl, HO, HK⟩ := hrel
    by_cases hlt : k < n
    · obtain ⟨g, off, rfl, hp⟩ := HC.out k hlt
      obtain ⟨c0, c1, c2⟩ := (hp.kpt K6.out).kpt HK.out
      have hls := HLS.out k hlt
      have hln := HLN.out k
      have st := stk_t (HS.out _ (HM.out k hlt))
      clear hp
      generalize l.getD k default = p at c0 c1 c2 hls st
      obtain ⟨P, U, Q⟩ := p
      simp only at c0 c1 c2 hls st
      have hL : (noL l k).length ≤ 40 := by have := L40.out; omega
      have HLL := Lib.hid hL
      have IP : Hid (InP [(P, U, 0)]) := fun q hq => by simp at hq; subst hq; simp only; omega
      have HL2 := Lib.hid hls
      clear hls hL hln st
      go_wp2_with (at_builtin; refine wp_appendS rfl (.tmp 65) (.tmp 67) rfl w6.heap.size _ _ (noL l k) [(P, U, 0)] _ rfl ((HO.out.alloc (.cells #[.int .i64 P, .int .i64 U, .int .i64 0] 68)).alloc (.cells #[.int .i64 P, .int .i64 U, .int .i64 0] 68)) rfl (reads_two IP.out) (by have := HLL.out; simp; omega) (by have := HK.out.size; simp; omega) ?_; intro v' w' ho' hb'; have HO' := Lib.hid ho'; have HB' : Hid (Kpt w6 w') := Below.trans ((HK.out.alloc _).alloc _) hb'; clear ho' hb')
      go_roundw
      case rel => exact ⟨k + 1, by omega, by go_num, by unfold Hid; rw [HL2.out]; exact HO'.out, HB'.out⟩
      case measure => simp [intOf]; omega
    · obtain rfl : k = n := by omega
      have KR := Lib.hid (ktr K6.out HK.out)
      have RD := Lib.hid (HO.out.reads (IPN.out k))
      obtain ⟨b1, b2, b3, f1, f2, f3⟩ := fin
      have VV := Lib.hid (HV4.out _ _ KR.out RD.out)
      clear HV4 RD HO
      cases b1 with
      | true =>
        clear f3
        go_wp2_with (first
          | (go_at_call 34; (with_reducible refine (VV.out.run _ (Kpt.refl _)).mono ?_); rintro e w8 ⟨rfl, k1⟩; have K8 := Lib.hid (ktr KR.out k1); clear k1))
        go_ret
        exact ⟨rfl, K8.out⟩
      | false =>
        cases b2 with
        | true =>
          clear f3
          go_wp2_with (first
            | (go_at_call 34; (with_reducible refine (VV.out.run _ (Kpt.refl _)).mono ?_); rintro e w8 ⟨rfl, k1⟩; have K8 := Lib.hid (ktr KR.out k1); clear k1))
          go_ret
          exact ⟨rfl, K8.out⟩
        | false =>
          obtain ⟨f4, f5⟩ := f3 rfl rfl
          go_wp2_with (first
            | (go_at_call 34; (with_reducible refine (VV.out.run _ (Kpt.refl _)).mono ?_); rintro e w8 ⟨rfl, k1⟩; have K8 := Lib.hid (ktr KR.out k1); clear k1))
          go_ret
          exact ⟨rfl, K8.out⟩

theorem mval_plain (v t u : Value) (l m : List (Int × Int × Int)) (ps : List Int) (w : World) (hl : ReadsP w v l) (ht : ReadsP w t m) (hu : Reads w u ps) :
    Calls Try.prog 12 #[v, t, u] w fun e w' => e = .returned (.bool true) ∧ Kpt w w' := by
  have V1 : ValIs v u w (valV l ps) (valE l ps) := fun w' k => value_run v u l ps w' (hl.kpt k) (hu.kpt k)
  have V2 : ValIs t u w (valV m ps) (valE m ps) := fun w' k => value_run t u m ps w' (ht.kpt k) (hu.kpt k)
  by_cases h : valE l ps = 0 ∧ valE m ps = 0
  · obtain ⟨h1, h2⟩ := h
    obtain ⟨⟨a1, a2⟩, a3, a4, a5, a6⟩ := val_0 h1
    obtain ⟨⟨b1, b2⟩, b3, b4, b5, b6⟩ := val_0 h2
    have n := val_none h1
    rw [h1] at V1
    rw [h2] at V2
    refine mval_ok v t u l m w _ _ (valV (l ++ m) ps) (valE (l ++ m) ps) hl ht a1 b1 a2 b2 (by rw [a5]; exact amt_t a6) (by rw [b5]; exact amt_t b6) (val_both h1 h2) V1 V2 (fun w' v' k r w2 k2 => value_run v' u _ ps w2 (r.kpt k2) (hu.kpt (ktr k k2))) (fun w' v' k r w2 k2 => ?_)
    have := value_run v' u _ ps w2 (r.kpt k2) (hu.kpt (ktr k k2))
    rwa [n.1, n.2] at this
  · exact mval_no v t u w _ _ _ _ (by omega) val_no V1 V2

end Go.Proofs.Ytlojdehjbcombaa
