/-
  The reference's trial.
-/
import Derived.Test.YtcpfldlcocencaaRefBook3
namespace Go.Proofs.Ytcpfldlcocencaa
open Go.RowKit
set_option linter.unusedVariables false

def upL (zs : List Int) : List Int := zs.filter fun z => decide (0 < z)
theorem up_sum (l : List (Int × Int × Int)) (u : Nat) : (upL (unitA l (u : Int))).sum = posS l u := by
  induction l with
  | nil => rfl
  | cons p l ih =>
    unfold upL unitA posS posP at *
    rw [List.filter_cons, List.filter_cons]
    by_cases h : p.2.1 = (u : Int)
    · by_cases h2 : 0 < p.2.2
      · rw [if_pos (by simp [h]), if_pos (by simpa using h2), List.map_cons, List.filter_cons_of_pos (by simpa using h2), List.sum_cons, unitS, if_pos h]; omega
      · rw [if_pos (by simp [h]), if_neg (by simpa using h2), List.map_cons, List.filter_cons_of_neg (by simpa using h2)]; omega
    · by_cases h2 : 0 < p.2.2
      · rw [if_neg (by simpa using h), if_pos (by simpa using h2), unitS, if_neg h]; omega
      · rw [if_neg (by simpa using h), if_neg (by simpa using h2)]; omega
theorem take_oneI {zs : List Int} {k : Nat} (hk : k < zs.length) : zs.take (k + 1) = zs.take k ++ [zs.getD k 0] := by
  rw [List.take_succ_eq_append_getElem hk, List.getD_eq_getElem?_getD, List.getElem?_eq_getElem hk]; rfl
theorem up_more {zs : List Int} {k : Nat} (hk : k < zs.length) (h : 0 < zs.getD k 0) : upL (zs.take (k + 1)) = upL (zs.take k) ++ [zs.getD k 0] := by
  unfold upL
  have e := take_oneI hk
  generalize zs.getD k 0 = q at *
  rw [e, List.filter_append, List.filter_cons_of_pos (by simpa using h)]
  rfl
theorem up_stay {zs : List Int} {k : Nat} (hk : k < zs.length) (h : ¬ 0 < zs.getD k 0) : upL (zs.take (k + 1)) = upL (zs.take k) := by
  unfold upL
  have e := take_oneI hk
  generalize zs.getD k 0 = q at *
  rw [e, List.filter_append, List.filter_cons_of_neg (by simpa using h)]
  simp
theorem up_len (zs : List Int) (k : Nat) : (upL (zs.take k)).length ≤ zs.length := by
  unfold upL
  have h := List.length_filter_le (fun z : Int => decide (0 < z)) (zs.take k)
  rw [List.length_take] at h
  omega
theorem up_amt {zs : List Int} (h : ∀ z ∈ zs, amtB z = true) : ∀ z ∈ upL zs, amtB z = true := fun z hz => h z (List.mem_filter.1 hz).1
def trialL (l : List (Int × Int × Int)) (k : Nat) : List Int := (List.range k).map (posS l)
theorem trialL_more (l : List (Int × Int × Int)) (k : Nat) : trialL l (k + 1) = trialL l k ++ [posS l k] := by
  unfold trialL
  rw [List.range_succ, List.map_append]
  rfl
theorem trialL_len (l : List (Int × Int × Int)) (k : Nat) : (trialL l k).length = k := by simp [trialL]

theorem owns_base {w : World} {B B' : Nat} {v : Value} {zs : List Int} (h : Owns w B v zs) (hb : B' ≤ B) : Owns w B' v zs := by
  obtain ⟨h1, h2⟩ := h
  refine ⟨h1, ?_⟩
  rcases h2 with h2 | ⟨k, cap, cur, e, hk, r⟩
  · exact .inl h2
  · exact .inr ⟨k, cap, cur, e, Nat.le_trans hb hk, r⟩
/-- what the trial answers -/
def RTrial (w : World) (l : List (Int × Int × Int)) (e : Ending) (w' : World) : Prop :=
  Kpt w w' ∧ ((linE l ≠ 0 ∧ e = .returned (.tuple #[.slice none 0 0, .int .i64 (linE l)])) ∨
    (linE l = 0 ∧ (((∀ u, u < 21 → amtB (posS l u) = true) ∧ ∃ v, Owns w' w.heap.size v (trialL l 21) ∧ e = .returned (.tuple #[v, .int .i64 0])) ∨
      ((∃ u, u < 21 ∧ amtB (posS l u) = false) ∧ e = .returned (.tuple #[.slice none 0 0, .int .i64 8])))))
theorem rtrial_bad (v : Value) (l : List (Int × Int × Int)) (w : World) (hl : ReadsP w v l) (h : linE l ≠ 0) : Calls Try.prog 18 #[v] w (RTrial w l) := by
  have LB := Lib.hid (rlines_any v l w hl)
  have HH := Lib.hid h
  have q : (linE l != 0) = true := bne_iff_ne.2 h
  clear h hl
  go_enter Try.func18, Try.ntmps18
  go_wp2_with (go_at_call 15; (with_reducible refine LB.out.mono ?_); rintro e w1 ⟨rfl, k1⟩)
  go_ret2
  exact ⟨k1, .inl ⟨HH.out, rfl⟩⟩

set_option maxRecDepth 100000 in
set_option maxHeartbeats 8000000 in
theorem rtrial_ok (v : Value) (l : List (Int × Int × Int)) (w : World) (hl : ReadsP w v l) (h : linE l = 0) : Calls Try.prog 18 #[v] w (RTrial w l) := by
  have LB := Lib.hid (h ▸ rlines_any v l w hl)
  obtain ⟨l4, ls, -⟩ := lin_0 h
  have PT := Lib.hid (strict_pt ls)
  have HH := Lib.hid h
  have RL := Lib.hid hl
  clear h hl ls
  go_enter Try.func18, Try.ntmps18
  go_wp2_with (go_at_call 15; (with_reducible refine LB.out.mono ?_); rintro e w1 ⟨rfl, k1⟩; have K1 := Lib.hid k1; clear k1)
  go_loopw [5, 6] (fun m i wr => ∃ u : Nat, u ≤ 21 ∧ i = .int .i64 u ∧ Hid (Owns wr w1.heap.size m (trialL l u)) ∧ Hid (∀ x, x < u → amtB (posS l x) = true) ∧ Hid (Kpt w1 wr)) (fun _ i _ => 21 - (intOf i).toNat)
  case atStart => exact ⟨0, Nat.zero_le _, rfl, Owns.nil _ _, (fun x hx => absurd hx (Nat.not_lt_zero x)), Kpt.refl _⟩
  case round =>
    obtain ⟨u, hu, rfl, HO, HA, HJ⟩ := hrel
    by_cases hu2 : u < 21
    · have u20 : (u : Int) ≤ 20 := by omega
      have AU := Lib.hid (fun w hr => amts_unit v l u w hr (by omega))
      have hal := unitA_len l l.length (u : Int)
      rw [List.take_length] at hal
      have UA := Lib.hid (unitA_amt PT.out (u : Int))
      have US := Lib.hid (up_sum l u)
      have TM := Lib.hid (trialL_more l u)
      have TL := Lib.hid (trialL_len l u)
      generalize unitA l (u : Int) = zs at *
      go_wp2_with (go_at_call 36; (with_reducible refine (AU.out _ (RL.out.kpt (ktr K1.out HJ.out))).mono ?_); rintro e w2 ⟨v2, rfl, O2, k2⟩; have K2 := Lib.hid (ktr HJ.out k2.out); have HO2 := Lib.hid (HO.out.kpt k2.out); clear k2)
      obtain ⟨a2, c2, hv2, hr2⟩ := O2.out.reads
      subst hv2
      have HC : Hid (∀ k, k < zs.length → ∃ b off, a2 = some ⟨b, off, none⟩ ∧ w2.cell? ⟨b, off + k, none⟩ = some (.int .i64 (zs.getD k 0))) := by
        intro k hk
        obtain ⟨a', c', e, -, hc⟩ := hr2
        injection e with e1 _ _
        subst e1
        exact hc k hk
      clear hr2
      go_loopw [8, 9] (fun m i wr => ∃ k : Nat, k ≤ zs.length ∧ i = .int .i64 k ∧ Hid (Owns wr w2.heap.size m (upL (zs.take k))) ∧ Hid (Kpt w2 wr)) (fun _ i _ => zs.length - (intOf i).toNat)
      case atStart => exact ⟨0, Nat.zero_le _, rfl, Owns.nil _ _, Kpt.refl _⟩
      case round =>
        obtain ⟨k, hk, rfl, HM, HN⟩ := hrel
        by_cases hlt : k < zs.length
        · obtain ⟨b, off, rfl, hc⟩ := HC.out k hlt
          have c0 := HN.out.cell hc
          have hm := Lib.hid (up_more hlt)
          have hs := Lib.hid (up_stay hlt)
          have hn := up_len zs k
          clear hc
          generalize zs.getD k 0 = z at c0 hm hs
          by_cases hz : 0 < z
          · have HX := Lib.hid (hm.out hz)
            clear hm hs
            go_wp2_with (at_builtin; refine wp_append1 rfl (.tmp 35) (.tmp 40) rfl w2.heap.size _ _ z wr rfl HM.out rfl (by omega) HN.out.size ?_; intro v' w' h1 h2; have HM' : Hid (Owns w' w2.heap.size v' (upL (zs.take (k + 1)))) := (by unfold Hid; rw [HX.out]; exact h1); have HN' : Hid (Kpt w2 w') := Below.trans HN.out h2; clear h1 h2)
            go_roundw
            case rel => exact ⟨k + 1, by omega, by go_num, HM'.out, HN'.out⟩
            case measure => simp [intOf]; omega
          · have hz' : decide (0 < z) = false := decide_eq_false hz
            have HX := Lib.hid (hs.out hz)
            have HM' : Hid (Owns wr w2.heap.size u8 (upL (zs.take (k + 1)))) := by unfold Hid; rw [HX.out]; exact HM.out
            clear hm hs
            go_wp2
            go_roundw
            case rel => exact ⟨k + 1, by omega, by go_num, HM'.out, HN.out⟩
            case measure => simp [intOf]; omega
        · have e : zs.take k = zs := List.take_of_length_le (by omega)
          rw [e] at HM
          clear e
          have hn := up_len zs zs.length
          rw [List.take_length] at hn
          cases hA : amtB (posS l u) with
          | false =>
            have SO := Lib.hid (sumOf_no u8 (upL zs) _ HM.out (by omega) (up_amt UA.out) US.out hA)
            have HX : Hid (∃ u, u < 21 ∧ amtB (posS l u) = false) := ⟨u, hu2, hA⟩
            clear hA
            go_wp2_with (go_at_call 24; (with_reducible refine SO.out.mono ?_); rintro e w3 ⟨r3, rfl, k3⟩; have K3 := Lib.hid (ktr (ktr (ktr K1.out K2.out) HN.out) k3); clear k3)
            go_ret2
            exact ⟨K3.out, .inr ⟨HH.out, .inr ⟨HX.out, rfl⟩⟩⟩
          | true =>
            have SO := Lib.hid (sumOf_own u8 (upL zs) _ HM.out (by omega) (up_amt UA.out) US.out hA)
            have HX : Hid (∀ x, x < u + 1 → amtB (posS l x) = true) := fun x hx => by
              rcases Nat.lt_or_ge x u with h | h
              · exact HA.out x h
              · obtain rfl : x = u := by omega
                exact hA
            clear hA
            generalize posS l u = S at SO TM
            go_wp2_with (first
              | (go_at_call 24; (with_reducible refine SO.out.mono ?_); rintro e w3 ⟨rfl, k3⟩; have K3 := Lib.hid (ktr (ktr K2.out HN.out) k3); have HO3 := Lib.hid (HO2.out.kpt (ktr HN.out k3)); clear k3)
              | (at_builtin; refine wp_append1 rfl (.tmp 49) (.tmp 51) rfl w1.heap.size _ _ S w3 rfl HO3.out rfl (by have := TL.out; omega) K3.out.size ?_; intro v' w' h1 h2; have HO' : Hid (Owns w' w1.heap.size v' (trialL l (u + 1))) := (by unfold Hid; rw [TM.out]; exact h1); have HK' : Hid (Kpt w1 w') := Below.trans K3.out h2; clear h1 h2))
            go_roundw
            case rel => exact ⟨u + 1, by omega, by go_num, HO'.out, HX.out, HK'.out⟩
            case measure => simp [intOf]; omega
    · obtain rfl : u = 21 := by omega
      go_wp2
      go_ret2
      exact ⟨ktr K1.out HJ.out, .inr ⟨HH.out, .inl ⟨HA.out, _, owns_base HO.out K1.out.size, rfl⟩⟩⟩
theorem rtrial_any (v : Value) (l : List (Int × Int × Int)) (w : World) (hl : ReadsP w v l) : Calls Try.prog 18 #[v] w (RTrial w l) := by
  by_cases h : linE l = 0
  · exact rtrial_ok v l w hl h
  · exact rtrial_bad v l w hl h

end Go.Proofs.Ytcpfldlcocencaa
