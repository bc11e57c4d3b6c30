/-
  Merged: RefSum.
-/
import Derived.Test.YtgccipmeiceonaaGreatMa36
import Derived.Test.YtgccipmeiceonaaGreatMa43
-- RefSum
namespace Go.Proofs.YtgccipmeiceonaaGreat
open Go.RowKit
set_option linter.unusedVariables false

theorem rstd_any (v : Value) (ps : List (Int × Int × Int)) (w : World) (hr : ReadsP w v ps) : Calls Tryz.prog 20 #[v] w fun e w' => Kpt w w' ∧ ((netE ps ≠ 0 ∧ e = .returned (.tuple #[.slice none 0 0, .int .i64 (netE ps)])) ∨
    (netE ps = 0 ∧ (List.range 31).all (fun u => amtB (standF ps u)) = true ∧ ∃ b off cap, e = .returned (.tuple #[.slice (some ⟨b, off, none⟩) 31 cap, .int .i64 0]) ∧ ∀ j, j < 31 → w'.cell? ⟨b, off + j, none⟩ = some (.int .i64 (standF ps j))) ∨
    (netE ps = 0 ∧ (List.range 31).all (fun u => amtB (standF ps u)) = false ∧ e = .returned (.tuple #[.slice none 0 0, .int .i64 8]))) := by
  refine (rns_run v ps w hr).mono ?_
  rintro e w' ⟨h, k⟩
  refine ⟨k, ?_⟩
  rcases h.out with h | ⟨h0, ⟨u, hu, ha⟩, rfl⟩ | ⟨h0, ha, v', rfl, ho⟩
  · exact .inl h
  · refine .inr (.inr ⟨h0, ?_, rfl⟩)
    cases hx : (List.range 31).all (fun u => amtB (standF ps u)) with
    | false => rfl
    | true =>
      have := List.all_eq_true.1 hx u (List.mem_range.2 hu)
      rw [ha] at this; cases this
  · refine .inr (.inl ⟨h0, List.all_eq_true.2 (fun u hu => ha u (List.mem_range.1 hu)), ?_⟩)
    obtain ⟨_, _, _, hr⟩ := ho.reads
    rcases hr.cell with ⟨e, _⟩ | ⟨_, b, off, cap, rfl, hc⟩
    · have := stdL_len ps 31; rw [e] at this; cases this
    · refine ⟨b, off, cap, by rw [stdL_len], fun j hj => ?_⟩
      rw [hc j (by rw [stdL_len]; exact hj)]
      unfold stdL
      rw [List.getD_eq_getElem?_getD, List.getElem?_map, List.getElem?_range hj]
      rfl

set_option maxHeartbeats 2000000 in
set_option maxRecDepth 100000 in
theorem rps_any (v : Value) (ps : List (Int × Int × Int)) (w : World) (hr : ReadsP w v ps) : Calls Tryz.prog 6 #[v] w (SumRes w ps) := by
  have ST := Lib.hid (rstd_any v ps w hr)
  clear hr
  by_cases hE : netE ps = 0
  · cases hA : (List.range 31).all (fun u => amtB (standF ps u)) with
    | true =>
      have ST1 : Hid (Calls Tryz.prog 20 #[v] w fun e w' => Kpt w w' ∧ ∃ b off cap, e = .returned (.tuple #[.slice (some ⟨b, off, none⟩) 31 cap, .int .i64 0]) ∧ ∀ j, j < 31 → w'.cell? ⟨b, off + j, none⟩ = some (.int .i64 (standF ps j))) := by
        refine ST.out.mono ?_
        rintro e w' ⟨k, h | ⟨_, _, b, off, cap, rfl, hrow⟩ | h⟩
        · exact absurd hE h.1
        · exact ⟨k, b, off, cap, rfl, hrow⟩
        · rw [hA] at h; exact absurd h.2.1 (by decide)
      have HS : Hid (sumE ps = if sumL (standF ps) 31 = [] then 5 else 0) := by unfold Hid sumE; rw [if_pos hE, if_pos hA]
      have HAM : Hid (∀ u, u < 31 → amtB (standF ps u) = true) := fun u hu => List.all_eq_true.1 hA u (List.mem_range.2 hu)
      clear ST hA hE
      have HO : Hid (∀ w' M dv, sumE ps = 0 → OwnsT 49 w' M dv (sumL (standF ps) 31) → w.heap.size ≤ M → Kpt w w' → SumRes w ps (.returned (.tuple #[dv, .int .i64 0])) w') := fun w' M dv h1 h2 h3 h4 => sumRes_ok h1 h2 h3 h4
      have HN : Hid (∀ w', sumE ps = 5 → Kpt w w' → SumRes w ps (.returned (.tuple #[.slice none 0 0, .int .i64 5])) w') := fun w' h1 h2 => sumRes_nil h1 (by decide) h2
      generalize standF ps = f at *
      go_enter Tryz.func6, Tryz.ntmps6
      go_wp2_with (go_at_call 20; (with_reducible refine ST1.out.mono ?_); rintro e w1 ⟨k1, g, off, cap, rfl, hrow⟩; have K1 := Lib.hid k1; have R1 := Lib.hid hrow; clear k1 hrow)
      go_loopw [6, 7] (fun dv i wr => ∃ k : Nat, k ≤ 31 ∧ i = .int .i64 k ∧ Hid (OwnsT 49 wr w1.heap.size dv (sumL f k)) ∧ Hid (Kpt w1 wr)) (fun _ i _ => 31 - (intOf i).toNat)
      case atStart => exact ⟨0, Nat.zero_le _, rfl, OwnsT.nil _ _ _, Kpt.refl _⟩
      case round =>
        obtain ⟨k, hk, rfl, HOW, HK⟩ := hrel
        by_cases hlt : k < 31
        · have c0 : wr.cell? ⟨g, off + k, none⟩ = some (.int .i64 (f k)) := HK.out.cell (R1.out k hlt)
          have ham := amt_t (HAM.out k hlt)
          have hst : sumL f (k + 1) = if f k = 0 then sumL f k else sumL f k ++ [((k : Int), 0, f k)] := rfl
          have hll := sumL_len f k
          generalize f k = z at c0 ham hst
          have k31 : (k : Int) < 31 := by omega
          by_cases hz : z = 0
          · rw [if_pos hz] at hst
            have HST := Lib.hid hst
            have q : (z != 0) = false := by simpa using hz
            clear hst
            go_wp2
            go_roundw
            case rel => exact ⟨k + 1, by omega, by go_num, by unfold Hid; rw [HST.out]; exact HOW.out, HK.out⟩
            case measure => simp [intOf]; omega
          · rw [if_neg hz] at hst
            have HST := Lib.hid hst
            have q : (z != 0) = true := by simpa using hz
            have e1000 : (sumL f k).length + 1 ≤ 100000 := by omega
            clear hst
            go_wp2_with (first | (refine wp_appendQ rfl (.tmp 27) (.tmp 34) rfl w1.heap.size _ (sumL f k) _ _ _ _ rfl HOW.out rfl e1000 HK.out.size ?_; intro dv2 w5 o5 b5; have O5 := Lib.hid o5; have K5 : Hid (Kpt w1 w5) := Below.trans HK.out b5; clear o5 b5))
            go_roundw
            case rel => exact ⟨k + 1, by omega, by go_num, by unfold Hid; rw [HST.out]; exact O5.out, K5.out⟩
            case measure => simp [intOf]; omega
        · obtain rfl : k = 31 := by omega
          have KK := Lib.hid (ktr K1.out HK.out)
          obtain ⟨a9, n9, c9, rfl, HNL⟩ := HOW.out.formN
          by_cases hz : sumL f 31 = []
          · have HS5 : Hid (sumE ps = 5) := by unfold Hid; rw [HS.out, if_pos hz]
            obtain rfl : n9 = 0 := by rw [HNL.out, hz]; rfl
            clear hz
            go_wp2
            go_ret2
            exact HN.out _ HS5.out KK.out
          · have HS0 : Hid (sumE ps = 0) := by unfold Hid; rw [HS.out, if_neg hz]
            have hn0 : n9 ≠ 0 := by rw [HNL.out]; exact fun e => hz (List.eq_nil_of_length_eq_zero e)
            have q : ((n9 : Int) == 0) = false := by simpa using hn0
            clear hz hn0
            go_wp2
            go_ret2
            exact HO.out _ _ _ HS0.out HOW.out K1.out.size KK.out
    | false =>
      have ST1 : Hid (Calls Tryz.prog 20 #[v] w fun e w' => Kpt w w' ∧ e = .returned (.tuple #[.slice none 0 0, .int .i64 8])) := by
        refine ST.out.mono ?_
        rintro e w' ⟨k, h | ⟨_, h, _⟩ | h⟩
        · exact absurd hE h.1
        · rw [hA] at h; exact absurd h (by decide)
        · exact ⟨k, h.2.2⟩
      have HS : Hid (sumE ps = 8) := by unfold Hid sumE; rw [if_pos hE, if_neg (by rw [hA]; decide)]
      clear ST hA hE
      go_enter Tryz.func6, Tryz.ntmps6
      go_wp2_with (go_at_call 20; (with_reducible refine ST1.out.mono ?_); rintro e w1 ⟨k1, rfl⟩; have K1 := Lib.hid k1; clear k1)
      go_ret2
      exact sumRes_nil HS.out (by decide) K1.out
  · have ST1 : Hid (Calls Tryz.prog 20 #[v] w fun e w' => Kpt w w' ∧ e = .returned (.tuple #[.slice none 0 0, .int .i64 (netE ps)])) := by
      refine ST.out.mono ?_
      rintro e w' ⟨k, h | h | h⟩
      · exact ⟨k, h.2⟩
      · exact absurd h.1 hE
      · exact absurd h.1 hE
    have HS : Hid (sumE ps = netE ps) := by unfold Hid sumE; rw [if_neg hE]
    clear ST
    have q : (netE ps != 0) = true := by simpa using hE
    generalize netE ps = E at *
    go_enter Tryz.func6, Tryz.ntmps6
    go_wp2_with (go_at_call 20; (with_reducible refine ST1.out.mono ?_); rintro e w1 ⟨k1, rfl⟩; have K1 := Lib.hid k1; clear k1)
    go_ret2
    exact sumRes_nil HS.out hE K1.out

end Go.Proofs.YtgccipmeiceonaaGreat
