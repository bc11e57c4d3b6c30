/-
  MarginSpare: the law answers true.
-/
import Derived.Test.YtlojdehjbcombaaMarJ
import Derived.Test.YtlojdehjbcombaaStkApp
namespace Go.Proofs.Ytlojdehjbcombaa
open Go.RowKit
set_option linter.unusedVariables false

/-- so many of the stake at place i are left -/
def lfU (at' s : Int) (p : Int × Int × Int) (i : Nat) : Int := if (i : Int) = at' then p.2.1 - s else p.2.1
def lf1 (at' s : Int) (p : Int × Int × Int) (i : Nat) : List (Int × Int × Int) := if 0 < lfU at' s p i then [(p.1, lfU at' s p i, p.2.2)] else []
def lfL (at' s : Int) (l : List (Int × Int × Int)) (k : Nat) : List (Int × Int × Int) := (List.range k).flatMap fun i => lf1 at' s (l.getD i default) i
theorem lfL_s (at' s : Int) (l : List (Int × Int × Int)) (k : Nat) : lfL at' s l (k + 1) = lfL at' s l k ++ lf1 at' s (l.getD k default) k := by
  unfold lfL; rw [List.range_succ, List.flatMap_append]; simp
theorem lfL_len (at' s : Int) (l : List (Int × Int × Int)) : ∀ k, (lfL at' s l k).length ≤ k
  | 0 => Nat.le_refl _
  | k + 1 => by
    have := lfL_len at' s l k
    rw [lfL_s, List.length_append]
    unfold lf1
    split <;> simp <;> omega
theorem lfL_ok {at' s : Int} {l : List (Int × Int × Int)} (hs : ∀ p ∈ l, stkB p = true) (h0 : 0 ≤ s) : ∀ k, k ≤ l.length → ∀ p ∈ lfL at' s l k, stkB p = true
  | 0, _, p, hp => absurd hp (by simp [lfL])
  | k + 1, hk, p, hp => by
    rw [lfL_s] at hp
    rcases List.mem_append.1 hp with hp | hp
    · exact lfL_ok hs h0 k (by omega) p hp
    · have st := stk_t (hs _ (getP_mem (ps := l) (k := k) (by omega)))
      unfold lf1 at hp
      split at hp
      · next h1 =>
        have hp := List.mem_singleton.1 hp
        subst hp
        unfold lfU at h1 ⊢
        refine decide_eq_true ?_
        simp only
        split at h1 <;> split <;> omega
      · cases hp
theorem lfL_sum {ps : List Int} {at' s : Int} {l : List (Int × Int × Int)} (hs : ∀ p ∈ l, stkB p = true) (h0 : 0 ≤ s) (hle : s ≤ (stkAt l at').2.1) (ha : 0 ≤ at') : ∀ k, k ≤ l.length →
    wsum ps (lfL at' s l k) = wsum ps (l.take k) + (if at' < k then wrt ps ((stkAt l at').1, (stkAt l at').2.1 - s, (stkAt l at').2.2) - wrt ps (stkAt l at') else 0)
  | 0, _ => by
    rw [if_neg (by omega)]; rfl
  | k + 1, hk => by
    have ih := lfL_sum (ps := ps) hs h0 hle ha k (by omega)
    have st := stk_t (hs _ (getP_mem (ps := l) (k := k) (by omega)))
    rw [lfL_s, wsum_app, ih, wsum_take (by omega)]
    have e1 : wsum ps (lf1 at' s (l.getD k default) k) = wrt ps ((l.getD k default).1, lfU at' s (l.getD k default) k, (l.getD k default).2.2) := by
      unfold lf1
      split
      · simp [wsum]
      · next h1 =>
        have : lfU at' s (l.getD k default) k = 0 := by
          unfold lfU at h1 ⊢
          split
          · next h2 =>
            rw [if_pos h2] at h1
            have : stkAt l at' = l.getD k default := by unfold stkAt; rw [← h2]; simp
            rw [this] at hle
            omega
          · next h2 => rw [if_neg h2] at h1; omega
        rw [this, wrt_0]; rfl
    rw [e1]
    unfold lfU
    by_cases h2 : (k : Int) = at'
    · have e3 : stkAt l at' = l.getD k default := by unfold stkAt; rw [← h2]; simp
      rw [if_pos h2, if_neg (by omega), if_pos (by omega), e3]
      have : wrt ps ((l.getD k default).1, (l.getD k default).2.1, (l.getD k default).2.2) = wrt ps (l.getD k default) := rfl
      omega
    · rw [if_neg h2]
      have e4 : wrt ps ((l.getD k default).1, (l.getD k default).2.1, (l.getD k default).2.2) = wrt ps (l.getD k default) := rfl
      rw [e4]
      by_cases h3 : at' < (k : Int)
      · rw [if_pos h3, if_pos (by omega)]; omega
      · rw [if_neg h3, if_neg (by omega)]; omega
/-- what is left counts enough, and no more -/
theorem ms_math {l : List (Int × Int × Int)} {ps : List Int} {need at' : Int} (h : spE l ps need at' = 0) :
    valE (lfL at' (spV l ps need at') l l.length) ps = 0 ∧ valE l ps = 0 ∧ need ≤ valV (lfL at' (spV l ps need at') l l.length) ps ∧ valV (lfL at' (spV l ps need at') l l.length) ps ≤ valV l ps ∧ (0 ≤ spV l ps need at' ∧ spV l ps need at' ≤ 1073741824) ∧ l.length ≤ 40 ∧ (∀ p ∈ l, stkB p = true) ∧ ∀ k, k ≤ l.length → ∀ p ∈ lfL at' (spV l ps need at') l k, stkB p = true := by
  obtain ⟨h0, h2, ⟨h3a, h3b⟩, h4, h5⟩ := spE_0 h
  obtain ⟨⟨h40, hs⟩, hps⟩ := mcE_0 h0
  have st := stk_t (hs _ (getP_mem (ps := l) (k := at'.toNat) (by omega)))
  have hst : stkAt l at' = l.getD at'.toNat default := rfl
  rw [← hst] at st
  have sn := sum_t h2
  have kb := kpV_bd hps (P := (stkAt l at').1) (U := (stkAt l at').2.1) (C := (stkAt l at').2.2) (most := wsum ps l - need) (by omega) (by omega) (by omega)
  have hv : spV l ps need at' = (stkAt l at').2.1 - kpV ps (stkAt l at').1 (stkAt l at').2.1 (stkAt l at').2.2 (wsum ps l - need) := if_pos h
  have s0 : 0 ≤ spV l ps need at' := by omega
  have s1 : spV l ps need at' ≤ (stkAt l at').2.1 := by omega
  have sum := lfL_sum (ps := ps) hs s0 s1 h3a l.length (Nat.le_refl _)
  rw [if_pos h3b, List.take_of_length_le (Nat.le_refl _)] at sum
  have e1 : (stkAt l at').2.1 - spV l ps need at' = (kpV ps (stkAt l at').1 (stkAt l at').2.1 (stkAt l at').2.2 (wsum ps l - need) : Nat) := by omega
  rw [e1] at sum
  have e2 : wrt ps ((stkAt l at').1, (stkAt l at').2.1, (stkAt l at').2.2) = wrt ps (stkAt l at') := rfl
  have mo := wrt_mono hps (P := (stkAt l at').1) (U := (kpV ps (stkAt l at').1 (stkAt l at').2.1 (stkAt l at').2.2 (wsum ps l - need) : Nat)) (V := (stkAt l at').2.1) (C := (stkAt l at').2.2) (by omega) kb.1
  have okl := lfL_ok (at' := at') hs s0
  have am := amt_t h4
  have am2 : amtB (wsum ps (lfL at' (spV l ps need at') l l.length)) = true := amt_mk (by omega) (by omega)
  have p0 : prsE ps = 0 := (orE_0 h0).2
  have m2 : mcE (lfL at' (spV l ps need at') l l.length) ps = 0 := by
    unfold mcE
    rw [orE_r (stkE_mk (by have := lfL_len at' (spV l ps need at') l l.length; omega) (okl _ (Nat.le_refl _))), p0]
  have v1 : valV l ps = wsum ps l := by unfold valV; rw [if_pos h0, (am_ok h4).1]
  have v2 : valV (lfL at' (spV l ps need at') l l.length) ps = wsum ps (lfL at' (spV l ps need at') l l.length) := by unfold valV; rw [if_pos m2, (am_ok am2).1]
  refine ⟨?_, ?_, ?_, ?_, ⟨s0, by omega⟩, h40, hs, okl⟩
  · unfold valE; rw [orE_r m2, (am_ok am2).2]
  · unfold valE; rw [orE_r h0, (am_ok h4).2]
  · rw [v2]; omega
  · rw [v1, v2]; omega
theorem stk_inp {l : List (Int × Int × Int)} (h : ∀ p ∈ l, stkB p = true) : InP l := fun p hp => by
  have := stk_t (h p hp); omega

set_option maxRecDepth 100000 in
set_option maxHeartbeats 4000000 in
theorem mspare_ok (v u : Value) (l : List (Int × Int × Int)) (ps : List Int) (need at' S V A : Int) (w : World) (hl : ReadsP w v l) (hu : Reads w u ps) (h40 : l.length ≤ 40) (hs : ∀ p ∈ l, stkB p = true) (hS : 0 ≤ S ∧ S ≤ 1073741824)
    (hok : ∀ k, k ≤ l.length → ∀ p ∈ lfL at' S l k, stkB p = true) (c1 : need ≤ V) (c2 : V ≤ A)
    (SP : SpIs v u need at' S 0 w) (V1 : ∀ w' v', Kpt w w' → ReadsP w' v' (lfL at' S l l.length) → Calls Try.prog 34 #[v', u] w' fun e w'' => e = .returned (.tuple #[.int .i64 V, .int .i64 0]) ∧ Kpt w' w'')
    (V2 : ∀ w', Kpt w w' → Calls Try.prog 34 #[v, u] w' fun e w'' => e = .returned (.tuple #[.int .i64 A, .int .i64 0]) ∧ Kpt w' w'') :
    Calls Try.prog 9 #[v, u, .int .i64 need, .int .i64 at'] w fun e w' => e = .returned (.bool true) ∧ Kpt w w' := by
  have HSP := Lib.hid SP
  have HV1 := Lib.hid V1
  have HV2 := Lib.hid V2
  have HS := Lib.hid hs
  have HOK := Lib.hid hok
  have HLS := Lib.hid (lfL_s at' S l)
  have HLN := Lib.hid (lfL_len at' S l)
  have H40 := Lib.hid h40
  have HM := Lib.hid (fun k (h : k < l.length) => (getP_mem h : l.getD k default ∈ l))
  have y1 : decide (need ≤ V) = true := decide_eq_true c1
  have y2 : decide (V ≤ A) = true := decide_eq_true c2
  obtain ⟨a, cap, rfl, -, hm, -, hc⟩ := hl
  unfold maxLen at hm
  have HC := Lib.hid hc
  obtain ⟨n, hn⟩ : ∃ n, n = l.length := ⟨_, rfl⟩
  rw [← hn] at HC hm H40 HOK HM HV1 HV2 HSP ⊢
  clear hc hn SP V1 V2 hs hok h40
  go_enter Try.func9, Try.ntmps9
  go_wp2_with (first
    | (go_at_call 37; (with_reducible refine HSP.out.run.mono ?_); rintro e w1 ⟨rfl, k1⟩; have K1 := Lib.hid k1; clear k1)
    | (go_at_call 43; (with_reducible refine (marginBegun _).mono ?_); rintro e w2 ⟨rfl, k1⟩; have K2 := Lib.hid (ktr K1.out k1); clear k1))
  go_loopw [11, 12] (fun lv ii wr => ∃ k : Nat, k ≤ n ∧ ii = .int .i64 (k : Int) ∧ Hid (OwnsT 68 wr w2.heap.size lv (lfL at' S l k)) ∧ Hid (Kpt w2 wr)) (fun _ ii _ => n - (intOf ii).toNat)
  case atStart => exact ⟨0, Nat.zero_le _, rfl, OwnsT.nil _ _ _, Kpt.refl w2⟩
  case round =>
    obtain ⟨k, hk, rfl, HO, HK⟩ := hrel
    by_cases hlt : k < n
    · obtain ⟨g, off, rfl, hp⟩ := HC.out k hlt
      obtain ⟨c0, c1, c2⟩ := (hp.kpt K2.out).kpt HK.out
      have hls := HLS.out k
      have hln := HLN.out k
      have st := stk_t (HS.out _ (HM.out k hlt))
      clear hp
      unfold lf1 lfU at hls
      generalize l.getD k default = p at c0 c1 c2 hls st
      obtain ⟨P, U, C⟩ := p
      simp only at c0 c1 c2 hls st
      have hL : (lfL at' S l k).length ≤ 40 := by have := H40.out; omega
      have HLL := Lib.hid hL
      by_cases ha : (k : Int) = at'
      · have ya : ((k : Int) == at') = true := beq_iff_eq.2 ha
        rw [if_pos ha] at hls
        have wn : IntKind.i64.wrap (U - S) = U - S := IntWalk.i64_in _ (by omega)
        by_cases h0 : 0 < U - S
        · rw [if_pos h0] at hls
          have y0 : decide (0 < U - S) = true := decide_eq_true h0
          have y0b : S < U := by omega
          have y0c : decide (S < U) = true := decide_eq_true y0b
          have IP : Hid (InP [(P, U - S, C)]) := fun q hq => by simp at hq; subst hq; simp only; omega
          have HL2 := Lib.hid hls
          clear hls ha h0 hL hln
          go_wp2_with (at_builtin; refine wp_appendS rfl (.tmp 53) (.tmp 55) rfl w2.heap.size _ _ (lfL at' S l k) [(P, U - S, C)] _ rfl ((HO.out.alloc (.cells #[.int .i64 P, .int .i64 (U - S), .int .i64 C] 68)).alloc (.cells #[.int .i64 P, .int .i64 (U - S), .int .i64 C] 68)) rfl (reads_two IP.out) (by have := HLL.out; simp; omega) (by have := HK.out.size; simp; omega) ?_; intro v' w' ho' hb'; have HO' := Lib.hid ho'; have HB' : Hid (Kpt w2 w') := Below.trans ((HK.out.alloc _).alloc _) hb'; clear ho' hb')
          go_roundw
          case rel => exact ⟨k + 1, by omega, by go_num, by unfold Hid; rw [HL2.out]; exact HO'.out, HB'.out⟩
          case measure => simp [intOf]; omega
        · rw [if_neg h0, List.append_nil] at hls
          have y0 : decide (0 < U - S) = false := decide_eq_false h0
          have y0b : ¬ S < U := by omega
          have y0c : decide (S < U) = false := decide_eq_false y0b
          have HL2 := Lib.hid hls
          clear hls ha h0 hL hln
          go_wp2
          go_roundw
          case rel => exact ⟨k + 1, by omega, by go_num, by unfold Hid; rw [HL2.out]; exact HO.out.alloc _, HK.out.alloc _⟩
          case measure => simp [intOf]; omega
      · have ya : ((k : Int) == at') = false := beq_eq_false_iff_ne.2 ha
        rw [if_neg ha, if_pos (by omega)] at hls
        have y0 : decide (0 < U) = true := decide_eq_true (by omega)
        have IP : Hid (InP [(P, U, C)]) := fun q hq => by simp at hq; subst hq; simp only; omega
        have HL2 := Lib.hid hls
        clear hls ha hL hln
        go_wp2_with (at_builtin; refine wp_appendS rfl (.tmp 53) (.tmp 55) rfl w2.heap.size _ _ (lfL at' S l k) [(P, U, C)] _ rfl ((HO.out.alloc (.cells #[.int .i64 P, .int .i64 U, .int .i64 C] 68)).alloc (.cells #[.int .i64 P, .int .i64 U, .int .i64 C] 68)) rfl (reads_two IP.out) (by have := HLL.out; simp; omega) (by have := HK.out.size; simp; omega) ?_; intro v' w' ho' hb'; have HO' := Lib.hid ho'; have HB' : Hid (Kpt w2 w') := Below.trans ((HK.out.alloc _).alloc _) hb'; clear ho' hb')
        go_roundw
        case rel => exact ⟨k + 1, by omega, by go_num, by unfold Hid; rw [HL2.out]; exact HO'.out, HB'.out⟩
        case measure => simp [intOf]; omega
    · obtain rfl : k = n := by omega
      have RD := Lib.hid (HO.out.reads (stk_inp (HOK.out k (Nat.le_refl _))))
      have KR := Lib.hid (ktr K2.out HK.out)
      go_wp2_with (first
        | (go_at_call 34; (with_reducible refine (HV1.out _ _ KR.out RD.out).mono ?_); rintro e w5 ⟨rfl, k1⟩; have K5 := Lib.hid (ktr KR.out k1); clear k1)
        | (go_at_call 34; (with_reducible refine (HV2.out _ K5.out).mono ?_); rintro e w6 ⟨rfl, k1⟩; have K6 := Lib.hid (ktr K5.out k1); clear k1))
      go_ret
      exact ⟨rfl, K6.out⟩
theorem mspare_no (v u : Value) (need at' E : Int) (w : World) (hE : E ≠ 0) (SP : SpIs v u need at' 0 E w) :
    Calls Try.prog 9 #[v, u, .int .i64 need, .int .i64 at'] w fun e w' => e = .returned (.bool true) ∧ Kpt w w' := by
  have z : (E != 0) = true := bne_iff_ne.2 hE
  have HSP := Lib.hid SP
  clear SP hE
  go_enter Try.func9, Try.ntmps9
  go_wp2_with (first
    | (go_at_call 37; (with_reducible refine HSP.out.run.mono ?_); rintro e w1 ⟨rfl, k1⟩; have K1 := Lib.hid k1; clear k1)
    | (go_at_call 43; (with_reducible refine (marginBegun _).mono ?_); rintro e w2 ⟨rfl, k1⟩; have K2 := Lib.hid (ktr K1.out k1); clear k1))
  go_ret
  exact ⟨rfl, K2.out⟩
theorem mspare_plain (v u : Value) (need at' : Int) (l : List (Int × Int × Int)) (ps : List Int) (w : World) (hl : ReadsP w v l) (hu : Reads w u ps) :
    Calls Try.prog 9 #[v, u, .int .i64 need, .int .i64 at'] w fun e w' => e = .returned (.bool true) ∧ Kpt w w' := by
  have S := spare_any v u l ps need at' w hl hu
  by_cases h : spE l ps need at' = 0
  · obtain ⟨m1, m2, m3, m4, m5, m6, m7, m8⟩ := ms_math h
    rw [h] at S
    refine mspare_ok v u l ps need at' _ _ _ w hl hu m6 m7 m5 m8 m3 m4 S (fun w' v' k r => ?_) (fun w' k => ?_)
    · have := value_run v' u _ ps w' r (hu.kpt k)
      rwa [m1] at this
    · have := value_run v u l ps w' (hl.kpt k) (hu.kpt k)
      rwa [m2] at this
  · rw [show spV l ps need at' = 0 from if_neg h] at S
    exact mspare_no v u need at' _ w h S

end Go.Proofs.Ytlojdehjbcombaa
