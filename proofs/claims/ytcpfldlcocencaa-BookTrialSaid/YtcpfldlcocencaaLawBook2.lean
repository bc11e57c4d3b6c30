/-
  BookTrial, BookSum, BookEven: the walks.
-/
import Derived.Test.YtcpfldlcocencaaBookR
import Derived.Test.YtcpfldlcocencaaLawBook
namespace Go.Proofs.Ytcpfldlcocencaa
open Go.RowKit
set_option linter.unusedVariables false

theorem trial_errs (v : Value) (l : List (Int × Int × Int)) (w : World) (hl : ReadsP w v l) (h : ¬ (linE l = 0 ∧ ∀ u, u < 21 → amtB (posS l u) = true)) : Calls Try.prog 13 #[v] w fun e w' => ∃ E : Int, (E != 0) = true ∧ e = .returned (.tuple #[.slice none 0 0, .int .i64 E]) ∧ Hid (Kpt w w') := by
  refine (trial_any v l w hl).mono ?_
  rintro e w' ⟨hg, ⟨h1, rfl⟩ | ⟨h0, ⟨h1, g, hg', rfl, hr⟩ | ⟨_, rfl⟩⟩⟩
  · exact ⟨_, bne_iff_ne.2 h1, rfl, hg.kpt⟩
  · exact absurd ⟨h0, h1⟩ h
  · exact ⟨8, rfl, rfl, hg.kpt⟩
theorem trial_goes (v : Value) (l : List (Int × Int × Int)) (w : World) (hl : ReadsP w v l) (h : linE l = 0 ∧ ∀ u, u < 21 → amtB (posS l u) = true) : Calls Try.prog 13 #[v] w fun e w' => ∃ g, e = .returned (.tuple #[.slice (some ⟨g, 0, none⟩) 21 21, .int .i64 0]) ∧ Hid (Row w' g ((List.range 21).map (posS l))) ∧ Hid (Kpt w w') := by
  refine (trial_any v l w hl).mono ?_
  rintro e w' ⟨hg, ⟨h1, rfl⟩ | ⟨h0, ⟨h1, g, hg', rfl, hr⟩ | ⟨⟨u, hu, hx⟩, rfl⟩⟩⟩
  · exact absurd h.1 h1
  · exact ⟨g, rfl, hr, hg.kpt⟩
  · rw [h.2 u hu] at hx; cases hx

set_option maxHeartbeats 1000000 in
theorem bookTrial_bad (v : Value) (l : List (Int × Int × Int)) (w : World) (hl : ReadsP w v l) (h : ¬ (linE l = 0 ∧ ∀ u, u < 21 → amtB (posS l u) = true)) : Calls Try.prog 7 #[v] w fun e w' => e = .returned (.bool true) ∧ Kpt w w' := by
  have TB := Lib.hid (trial_errs v l w hl h)
  clear h hl
  go_enter Try.func7, Try.ntmps7
  go_wp2_with (first
    | (go_at_call 13; (with_reducible refine TB.out.mono ?_); rintro e w1 ⟨E, q, rfl, k1⟩)
    | (go_at_call 19; (with_reducible refine (bookBegun _).mono ?_); rintro e w2 ⟨rfl, k2⟩; have K2 := Lib.hid (ktr k1.out k2); clear k2))
  go_ret
  exact ⟨rfl, K2.out⟩

set_option maxRecDepth 100000 in
set_option maxHeartbeats 4000000 in
theorem bookTrial_ok (v : Value) (l : List (Int × Int × Int)) (w : World) (hl : ReadsP w v l) (h : linE l = 0 ∧ ∀ u, u < 21 → amtB (posS l u) = true) : Calls Try.prog 7 #[v] w fun e w' => e = .returned (.bool true) ∧ Kpt w w' := by
  have TB := Lib.hid (trial_goes v l w hl h)
  obtain ⟨l4, ls, le⟩ := lin_0 h.1
  have PT := Lib.hid (strict_pt ls)
  have AM := Lib.hid h.2
  have EV : Hid (∀ u, u < 21 → (negU l u).sum = posS l u) := fun u hu => by have h1 := negU_sum (l := l) u; have h2 := evn_t le u hu; omega
  obtain ⟨a, cap, rfl, -, -, -, hc⟩ := id hl
  have HC := Lib.hid hc
  clear h hl ls le hc
  go_enter Try.func7, Try.ntmps7
  go_wp2_with (first
    | (go_at_call 13; (with_reducible refine TB.out.mono ?_); rintro e w1 ⟨g, rfl, R1, k1⟩)
    | (go_at_call 19; (with_reducible refine (bookBegun _).mono ?_); rintro e w2 ⟨rfl, k2⟩; have K2 := Lib.hid (ktr k1.out k2); have R2 := Lib.hid (R1.out.kpt k2); clear k2))
  go_loopw [5] (fun i wr => ∃ u : Nat, u ≤ 21 ∧ i = .int .i64 u ∧ Hid (Kpt w2 wr)) (fun i _ => 21 - (intOf i).toNat)
  case atStart => exact ⟨0, Nat.zero_le _, rfl, Kpt.refl _⟩
  case round =>
    obtain ⟨u, hu, rfl, HK⟩ := hrel
    by_cases hu2 : u < 21
    · have u0 : (0 : Int) ≤ (u : Int) := by omega
      have u1 : (u : Int) < 21 := by omega
      obtain ⟨wo, hwo⟩ : ∃ wo : World, wo = wr := ⟨_, rfl⟩
      subst hwo
      go_wp2
      go_loopw [6, 7] (fun m i wr2 => ∃ k : Nat, k ≤ l.length ∧ i = .int .i64 k ∧ Hid (Owns wr2 wo.heap.size m (negU (l.take k) u)) ∧ Hid (Kpt wo wr2)) (fun _ i _ => l.length - (intOf i).toNat)
      case atStart => exact ⟨0, Nat.zero_le _, rfl, Owns.nil _ _, Kpt.refl _⟩
      case round =>
        obtain ⟨k, hk, rfl, HO, HJ⟩ := hrel
        by_cases hlt : k < l.length
        · obtain ⟨b, off, rfl, c0, c1, c2⟩ := HC.out k hlt
          have KK := Lib.hid (ktr (ktr K2.out HK.out) HJ.out)
          have d1 := KK.out.cell c1
          have d2 := KK.out.cell c2
          have hm := Lib.hid (negU_more hlt u)
          have hs := Lib.hid (negU_stay hlt u)
          have hb := pt_t (PT.out _ (getP_mem hlt))
          have hn := negU_len l k u
          clear c0 c1 c2
          generalize l.getD k default = p at d1 d2 hm hs hb
          obtain ⟨A, U, N⟩ := p
          simp only at d1 d2 hb
          obtain ⟨-, -, -, -, -, n0, n1⟩ := hb
          by_cases h1 : U = (u : Int)
          · by_cases h2 : N < 0
            · have HM := Lib.hid (hm.out h1 h2)
              have q1 : (U == (u : Int)) = true := beq_iff_eq.2 h1
              clear hm hs h1
              go_wp2_with (at_builtin; refine wp_append1 rfl (.tmp 49) (.tmp 56) rfl wo.heap.size _ _ (-N) wr rfl HO.out rfl (by omega) HJ.out.size ?_; intro v' w' h1 h2; have HO' : Hid (Owns w' wo.heap.size v' (negU (l.take (k + 1)) u)) := (by unfold Hid; rw [HM.out]; exact h1); have HJ' : Hid (Kpt wo w') := Below.trans HJ.out h2; clear h1 h2)
              go_roundw
              case rel => exact ⟨k + 1, by omega, by go_num, HO'.out, HJ'.out⟩
              case measure => simp [intOf]; omega
            · have HM := Lib.hid (hs.out fun q => h2 q.2)
              have q1 : (U == (u : Int)) = true := beq_iff_eq.2 h1
              have q2 : decide (N < 0) = false := decide_eq_false h2
              have HO' : Hid (Owns wr wo.heap.size u6 (negU (l.take (k + 1)) u)) := by unfold Hid; rw [HM.out]; exact HO.out
              clear hm hs h1
              go_wp2
              go_roundw
              case rel => exact ⟨k + 1, by omega, by go_num, HO'.out, HJ.out⟩
              case measure => simp [intOf]; omega
          · have HM := Lib.hid (hs.out fun q => h1 q.1)
            have q1 : (U == (u : Int)) = false := beq_eq_false_iff_ne.2 h1
            have HO' : Hid (Owns wr wo.heap.size u6 (negU (l.take (k + 1)) u)) := by unfold Hid; rw [HM.out]; exact HO.out
            clear hm hs h1
            go_wp2
            go_roundw
            case rel => exact ⟨k + 1, by omega, by go_num, HO'.out, HJ.out⟩
            case measure => simp [intOf]; omega
        · have e : l.take k = l := List.take_of_length_le (by omega)
          rw [e] at HO
          clear e
          have hn := negU_len l l.length u
          rw [List.take_length] at hn
          have SO := Lib.hid (sumOf_own u6 (negU l u) (posS l u) HO.out (by omega) (negU_amt PT.out u) (EV.out u hu2) (AM.out u hu2))
          have cs : wr.cell? ⟨g, u, none⟩ = some (.int .i64 (posS l u)) := by
            have := ((R2.out.kpt HK.out).kpt HJ.out).cell (j := u) (by simpa using hu2)
            rw [this]
            simp [List.getD_eq_getElem?_getD, hu2]
          have CS := Lib.hid cs
          clear cs
          generalize posS l u = S at *
          go_wp2_with (go_at_call 24; (with_reducible refine SO.out.mono ?_); rintro e w3 ⟨rfl, k3⟩; have cs := k3.cell CS.out; have K3 := Lib.hid (ktr (ktr HK.out HJ.out) k3); clear k3)
          go_roundw
          case rel => exact ⟨u + 1, by omega, by go_num, K3.out⟩
          case measure => simp [intOf]; omega
    · go_wp2
      go_ret
      exact ⟨rfl, ktr K2.out HK.out⟩

theorem bookTrial_walk (v : Value) (l : List (Int × Int × Int)) (w : World) (hl : ReadsP w v l) : Calls Try.prog 7 #[v] w fun e w' => e = .returned (.bool true) ∧ Kpt w w' := by
  by_cases h : linE l = 0 ∧ ∀ u, u < 21 → amtB (posS l u) = true
  · exact bookTrial_ok v l w hl h
  · exact bookTrial_bad v l w hl h

end Go.Proofs.Ytcpfldlcocencaa
