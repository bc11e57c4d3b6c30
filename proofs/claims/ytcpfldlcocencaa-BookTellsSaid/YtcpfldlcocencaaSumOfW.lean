/-
  What SumOf of the reference does: the walk.
-/
import Derived.Test.YtcpfldlcocencaaSumOf
namespace Go.Proofs.Ytcpfldlcocencaa
open Go.RowKit
set_option linter.unusedVariables false

def sliceLen : Value → Nat
  | .slice _ n _ => n
  | _ => 0
def Fork (w w' : World) (m l : Value) (M L : List Int) : Prop := Owns w' w.heap.size m M ∧ Owns w' w.heap.size l L ∧ Apart m l ∧ Apart l m

set_option maxRecDepth 100000 in
set_option maxHeartbeats 2000000 in
theorem sumOf_any (v : Value) (zs : List Int) (w : World) (hr : Reads w v zs) (hm : zs.length ≤ 1000) (ha : ∀ z ∈ zs, amtB z = true) :
    Calls Try.prog 24 #[v] w (SumRes w zs.sum) := by
  have HC : Hid (∀ k, k < zs.length → ∃ b off, v = .slice (some ⟨b, off, none⟩) zs.length (match v with | .slice _ _ c => c | _ => 0) ∧ w.cell? ⟨b, off + k, none⟩ = some (.int .i64 (zs.getD k 0))) := by
    intro k hk
    rcases hr.cell with ⟨rfl, _⟩ | ⟨_, b, off, cap, rfl, hc⟩
    · simp at hk
    · exact ⟨b, off, rfl, hc k hk⟩
  obtain ⟨a, cap, rfl, -⟩ := id hr
  simp only at HC
  have HS := Lib.hid (halves_start ha)
  have PL := Lib.hid (part_len zs)
  obtain ⟨T, hT⟩ : ∃ T, T = zs.sum := ⟨_, rfl⟩
  rw [← hT] at HS ⊢
  clear hr ha hT
  go_enter Try.func24, Try.ntmps24
  go_wp2
  go_loopw [4, 5, 6] (fun m l i wr => ∃ k : Nat, k ≤ zs.length ∧ i = .int .i64 k ∧ Hid (Fork w wr m l (posL (zs.take k)) (negL (zs.take k))) ∧ Hid (Kpt w wr)) (fun _ _ i _ => zs.length - (intOf i).toNat)
  case atStart => exact ⟨0, Nat.zero_le _, rfl, ⟨Owns.nil _ _, Owns.nil _ _, .inl rfl, .inl rfl⟩, Kpt.refl _⟩
  case round =>
    obtain ⟨k, hk, rfl, HF, HK⟩ := hrel
    by_cases hlt : k < zs.length
    · obtain ⟨b, off, e, hc⟩ := HC.out k hlt
      injection e with e1 _ _
      subst e1
      have c0 := HK.out.cell hc
      have hp := Lib.hid (pos_more hlt)
      have hn := Lib.hid (neg_more hlt)
      have hl := Lib.hid (PL.out k)
      clear hc
      generalize zs.getD k 0 = z at c0 hp hn
      have k0 : (0 : Int) ≤ (k : Int) := by omega
      have k1 : (k : Int) < (zs.length : Int) := by omega
      by_cases hz : 0 ≤ z
      · have HX := Lib.hid (hp.out hz)
        clear hp hn
        go_wp2_with (at_builtin; refine wp_append2 rfl (.tmp 19) (.tmp 24) rfl w.heap.size _ _ z wr rfl HF.out.1 rfl (by have := hl.out.1; omega) HK.out.size _ _ HF.out.2.1 HF.out.2.2.2 ?_; intro v' w' h1 h2 h3 h4 h5; have HF' : Hid (Fork w w' v' u5 (posL (zs.take (k + 1))) (negL (zs.take (k + 1)))) := (by unfold Hid; rw [HX.out.1, HX.out.2]; exact ⟨h1, h3, h5, h4⟩); have HK' : Hid (Kpt w w') := Below.trans HK.out h2; clear h1 h2 h3 h4 h5)
        go_roundw
        case rel => exact ⟨k + 1, by omega, by go_num, HF'.out, HK'.out⟩
        case measure => simp [intOf]; omega
      · have hz' : decide (0 ≤ z) = false := decide_eq_false hz
        have HX := Lib.hid (hn.out (by omega))
        clear hp hn
        go_wp2_with (at_builtin; refine wp_append2 rfl (.tmp 26) (.tmp 31) rfl w.heap.size _ _ z wr rfl HF.out.2.1 rfl (by have := hl.out.2; omega) HK.out.size _ _ HF.out.1 HF.out.2.2.1 ?_; intro v' w' h1 h2 h3 h4 h5; have HF' : Hid (Fork w w' u4 v' (posL (zs.take (k + 1))) (negL (zs.take (k + 1)))) := (by unfold Hid; rw [HX.out.1, HX.out.2]; exact ⟨h3, h1, h4, h5⟩); have HK' : Hid (Kpt w w') := Below.trans HK.out h2; clear h1 h2 h3 h4 h5)
        go_roundw
        case rel => exact ⟨k + 1, by omega, by go_num, HF'.out, HK'.out⟩
        case measure => simp [intOf]; omega
    · have e : zs.take k = zs := List.take_of_length_le (by omega)
      rw [e] at HF
      clear e
      have HM := Lib.hid HF.out.1.readsN
      have HL := Lib.hid HF.out.2.1.readsN
      have PN : Hid ((posL zs).length + (negL zs).length ≤ 2000) := by
        have h := PL.out zs.length
        rw [List.take_length] at h
        unfold Hid
        omega
      clear HF PL
      go_wp2
      go_loopw [4, 5, 7] (fun m l s wr2 => ∃ (M L : List Int) (S : Int), s = .int .i64 S ∧ Hid (ReadsN wr2 m M) ∧ Hid (ReadsN wr2 l L) ∧ Hid (Halves T S M L) ∧ M.length + L.length ≤ 2000 ∧ Hid (Kpt w wr2)) (fun m l _ _ => sliceLen m + sliceLen l)
      case atStart => exact ⟨_, _, 0, rfl, HM.out, HL.out, HS.out, PN.out, HK.out⟩
      case round =>
        obtain ⟨M, L, S, rfl, HM, HL, HS2, hn, HK2⟩ := hrel
        obtain ⟨am, nm, cm, rfl, EM, bm⟩ := HM.out.slot
        obtain ⟨al, nl, cl, rfl, EL, bl⟩ := HL.out.slot
        have bsum : nm + nl ≤ 2000 := by rw [EM.out, EL.out]; exact hn
        have HN := Lib.hid hn
        clear hn
        have bs := HS2.out.lo; have bs' := HS2.out.hi
        by_cases h0 : nm = 0
        · have HM0 := Lib.hid (HM.out.nil h0)
          subst h0
          by_cases h1 : nl = 0
          · have HL0 := Lib.hid (HL.out.nil h1)
            subst h1
            have HT : Hid (S = T) := halves_end (by have := HS2.out; rw [HM0.out, HL0.out] at this; exact this)
            have e := HT.out
            clear HT
            subst e
            cases hA : amtB S with
            | true =>
              have AC := Lib.hid (fun W => rck_ok S W hA)
              have HA := Lib.hid hA
              clear hA
              go_wp2_with (go_at_call 42; (with_reducible refine (AC.out _).mono ?_); rintro e w' ⟨rfl, rfl⟩)
              go_ret2
              exact ⟨HK2.out, .inl ⟨HA.out, rfl⟩⟩
            | false =>
              have AC := Lib.hid (fun W => rck_no S W hA)
              have HA := Lib.hid hA
              clear hA
              go_wp2_with (go_at_call 42; (with_reducible refine (AC.out _).mono ?_); rintro e w' ⟨rfl, rfl⟩)
              go_ret2
              exact ⟨HK2.out, .inr ⟨HA.out, S, rfl⟩⟩
          · have n1 : ((nl : Int) == 0) = false := beq_eq_false_iff_ne.2 (by omega)
            have n2 : 0 < nl := by omega
            obtain ⟨b, off, z, R, rfl, HE, hcap, hcm, c0, hone, hmore⟩ := HL.out.cut h1
            have HU := halves_dn (z := z) (L := R) (by rw [← HE.out]; exact HS2.out) (.inl HM0.out)
            have hz := HS2.out.dn z (by rw [HE.out]; simp)
            by_cases c1 : cl = 1
            · obtain ⟨u1, hmz⟩ := hone c1
              subst c1; subst u1
              clear hone hmore
              obtain ⟨q1, ⟨q2, HH⟩ | ⟨q2, HB⟩⟩ := HU
              · have HH2 := Lib.hid HH; clear HH
                go_wp2_with (go_at_call 41; (with_reducible refine (btw_t _ _ _ _ (by omega) (by omega)).mono ?_); rintro e w' ⟨rfl, rfl⟩)
                go_roundw
                case rel => exact ⟨M, R, S + z, rfl, HM.out, (by unfold Hid; rw [hmz.out]; exact readsN_nil _ _ _ (by omega)), HH2.out, (by have := HN.out; rw [HE.out] at this; simp at this; omega), HK2.out⟩
                case measure => first | (simp [sliceLen]; done) | (simp [sliceLen]; omega)
              · have HB2 := Lib.hid HB; clear HB
                go_wp2_with (go_at_call 41; (with_reducible refine (btw_f _ _ _ _ (by omega)).mono ?_); rintro e w' ⟨rfl, rfl⟩)
                all_goals
                  go_ret2
                  exact ⟨HK2.out, .inr ⟨HB2.out, 0, rfl⟩⟩
            · have HMo := hmore c1
              clear hone hmore
              obtain ⟨q1, ⟨q2, HH⟩ | ⟨q2, HB⟩⟩ := HU
              · have HH2 := Lib.hid HH; clear HH
                go_wp2_with (go_at_call 41; (with_reducible refine (btw_t _ _ _ _ (by omega) (by omega)).mono ?_); rintro e w' ⟨rfl, rfl⟩)
                go_roundw
                case rel => exact ⟨M, R, S + z, rfl, HM.out, HMo.out, HH2.out, (by have := HN.out; rw [HE.out] at this; simp at this; omega), HK2.out⟩
                case measure => first | (simp [sliceLen]; done) | (simp [sliceLen]; omega)
              · have HB2 := Lib.hid HB; clear HB
                go_wp2_with (go_at_call 41; (with_reducible refine (btw_f _ _ _ _ (by omega)).mono ?_); rintro e w' ⟨rfl, rfl⟩)
                all_goals
                  go_ret2
                  exact ⟨HK2.out, .inr ⟨HB2.out, 0, rfl⟩⟩
        · by_cases h1 : nl = 0
          · have HL0 := Lib.hid (HL.out.nil h1)
            subst h1
            have n2 : 0 < nm := by omega
            obtain ⟨b, off, z, R, rfl, HE, hcap, hcm, c0, hone, hmore⟩ := HM.out.cut h0
            have HU := halves_up (z := z) (M := R) (by rw [← HE.out]; exact HS2.out) (.inl HL0.out)
            have hz := HS2.out.up z (by rw [HE.out]; simp)
            by_cases c1 : cm = 1
            · obtain ⟨u1, hmz⟩ := hone c1
              subst c1; subst u1
              clear hone hmore
              obtain ⟨q1, ⟨q2, HH⟩ | ⟨q2, HB⟩⟩ := HU
              · have HH2 := Lib.hid HH; clear HH
                go_wp2_with (go_at_call 41; (with_reducible refine (btw_t _ _ _ _ (by omega) (by omega)).mono ?_); rintro e w' ⟨rfl, rfl⟩)
                go_roundw
                case rel => exact ⟨R, L, S + z, rfl, (by unfold Hid; rw [hmz.out]; exact readsN_nil _ _ _ (by omega)), HL.out, HH2.out, (by have := HN.out; rw [HE.out] at this; simp at this; omega), HK2.out⟩
                case measure => first | (simp [sliceLen]; done) | (simp [sliceLen]; omega)
              · have HB2 := Lib.hid HB; clear HB
                go_wp2_with (go_at_call 41; (with_reducible refine (btw_f _ _ _ _ (by omega)).mono ?_); rintro e w' ⟨rfl, rfl⟩)
                all_goals
                  go_ret2
                  exact ⟨HK2.out, .inr ⟨HB2.out, 0, rfl⟩⟩
            · have HMo := hmore c1
              clear hone hmore
              obtain ⟨q1, ⟨q2, HH⟩ | ⟨q2, HB⟩⟩ := HU
              · have HH2 := Lib.hid HH; clear HH
                go_wp2_with (go_at_call 41; (with_reducible refine (btw_t _ _ _ _ (by omega) (by omega)).mono ?_); rintro e w' ⟨rfl, rfl⟩)
                go_roundw
                case rel => exact ⟨R, L, S + z, rfl, HMo.out, HL.out, HH2.out, (by have := HN.out; rw [HE.out] at this; simp at this; omega), HK2.out⟩
                case measure => first | (simp [sliceLen]; done) | (simp [sliceLen]; omega)
              · have HB2 := Lib.hid HB; clear HB
                go_wp2_with (go_at_call 41; (with_reducible refine (btw_f _ _ _ _ (by omega)).mono ?_); rintro e w' ⟨rfl, rfl⟩)
                all_goals
                  go_ret2
                  exact ⟨HK2.out, .inr ⟨HB2.out, 0, rfl⟩⟩
          · have n1 : ((nl : Int) == 0) = false := beq_eq_false_iff_ne.2 (by omega)
            have n2 : 0 < nm := by omega
            have n3 : 0 < nl := by omega
            have n4 : (0 : Int) < (nm : Int) := by omega
            by_cases hs : S ≤ 0
            · obtain ⟨b, off, z, R, rfl, HE, hcap, hcm, c0, hone, hmore⟩ := HM.out.cut h0
              have HU := halves_up (z := z) (M := R) (by rw [← HE.out]; exact HS2.out) (.inr hs)
              have hz := HS2.out.up z (by rw [HE.out]; simp)
              by_cases c1 : cm = 1
              · obtain ⟨u1, hmz⟩ := hone c1
                subst c1; subst u1
                clear hone hmore
                obtain ⟨q1, ⟨q2, HH⟩ | ⟨q2, HB⟩⟩ := HU
                · have HH2 := Lib.hid HH; clear HH
                  go_wp2_with (go_at_call 41; (with_reducible refine (btw_t _ _ _ _ (by omega) (by omega)).mono ?_); rintro e w' ⟨rfl, rfl⟩)
                  go_roundw
                  case rel => exact ⟨R, L, S + z, rfl, (by unfold Hid; rw [hmz.out]; exact readsN_nil _ _ _ (by omega)), HL.out, HH2.out, (by have := HN.out; rw [HE.out] at this; simp at this; omega), HK2.out⟩
                  case measure => first | (simp [sliceLen]; done) | (simp [sliceLen]; omega)
                · have HB2 := Lib.hid HB; clear HB
                  go_wp2_with (go_at_call 41; (with_reducible refine (btw_f _ _ _ _ (by omega)).mono ?_); rintro e w' ⟨rfl, rfl⟩)
                  all_goals
                    go_ret2
                    exact ⟨HK2.out, .inr ⟨HB2.out, 0, rfl⟩⟩
              · have HMo := hmore c1
                clear hone hmore
                obtain ⟨q1, ⟨q2, HH⟩ | ⟨q2, HB⟩⟩ := HU
                · have HH2 := Lib.hid HH; clear HH
                  go_wp2_with (go_at_call 41; (with_reducible refine (btw_t _ _ _ _ (by omega) (by omega)).mono ?_); rintro e w' ⟨rfl, rfl⟩)
                  go_roundw
                  case rel => exact ⟨R, L, S + z, rfl, HMo.out, HL.out, HH2.out, (by have := HN.out; rw [HE.out] at this; simp at this; omega), HK2.out⟩
                  case measure => first | (simp [sliceLen]; done) | (simp [sliceLen]; omega)
                · have HB2 := Lib.hid HB; clear HB
                  go_wp2_with (go_at_call 41; (with_reducible refine (btw_f _ _ _ _ (by omega)).mono ?_); rintro e w' ⟨rfl, rfl⟩)
                  all_goals
                    go_ret2
                    exact ⟨HK2.out, .inr ⟨HB2.out, 0, rfl⟩⟩
            · have hs' : decide (S ≤ 0) = false := decide_eq_false hs
              obtain ⟨b, off, z, R, rfl, HE, hcap, hcm, c0, hone, hmore⟩ := HL.out.cut h1
              have HU := halves_dn (z := z) (L := R) (by rw [← HE.out]; exact HS2.out) (.inr (by omega))
              have hz := HS2.out.dn z (by rw [HE.out]; simp)
              by_cases c1 : cl = 1
              · obtain ⟨u1, hmz⟩ := hone c1
                subst c1; subst u1
                clear hone hmore
                obtain ⟨q1, ⟨q2, HH⟩ | ⟨q2, HB⟩⟩ := HU
                · have HH2 := Lib.hid HH; clear HH
                  go_wp2_with (go_at_call 41; (with_reducible refine (btw_t _ _ _ _ (by omega) (by omega)).mono ?_); rintro e w' ⟨rfl, rfl⟩)
                  go_roundw
                  case rel => exact ⟨M, R, S + z, rfl, HM.out, (by unfold Hid; rw [hmz.out]; exact readsN_nil _ _ _ (by omega)), HH2.out, (by have := HN.out; rw [HE.out] at this; simp at this; omega), HK2.out⟩
                  case measure => first | (simp [sliceLen]; done) | (simp [sliceLen]; omega)
                · have HB2 := Lib.hid HB; clear HB
                  go_wp2_with (go_at_call 41; (with_reducible refine (btw_f _ _ _ _ (by omega)).mono ?_); rintro e w' ⟨rfl, rfl⟩)
                  all_goals
                    go_ret2
                    exact ⟨HK2.out, .inr ⟨HB2.out, 0, rfl⟩⟩
              · have HMo := hmore c1
                clear hone hmore
                obtain ⟨q1, ⟨q2, HH⟩ | ⟨q2, HB⟩⟩ := HU
                · have HH2 := Lib.hid HH; clear HH
                  go_wp2_with (go_at_call 41; (with_reducible refine (btw_t _ _ _ _ (by omega) (by omega)).mono ?_); rintro e w' ⟨rfl, rfl⟩)
                  go_roundw
                  case rel => exact ⟨M, R, S + z, rfl, HM.out, HMo.out, HH2.out, (by have := HN.out; rw [HE.out] at this; simp at this; omega), HK2.out⟩
                  case measure => first | (simp [sliceLen]; done) | (simp [sliceLen]; omega)
                · have HB2 := Lib.hid HB; clear HB
                  go_wp2_with (go_at_call 41; (with_reducible refine (btw_f _ _ _ _ (by omega)).mono ?_); rintro e w' ⟨rfl, rfl⟩)
                  all_goals
                    go_ret2
                    exact ⟨HK2.out, .inr ⟨HB2.out, 0, rfl⟩⟩

end Go.Proofs.Ytcpfldlcocencaa
