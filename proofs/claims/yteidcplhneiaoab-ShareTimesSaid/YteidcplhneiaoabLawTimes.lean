/-
  ShareTimes: the law answers true.
-/
import Derived.Test.YteidcplhneiaoabLawSeats
namespace Go.Proofs.Yteidcplhneiaoab
open Go.RowKit Go.Lib
set_option linter.unusedVariables false

theorem times_len (x : Int) (zs : List Int) : (zs.map (x * ·)).length = zs.length := by simp
theorem times_snoc (x : Int) (zs : List Int) {k : Nat} (hk : k < zs.length) : (zs.take k).map (x * ·) ++ [x * zs.getD k 0] = (zs.take (k + 1)).map (x * ·) := by
  rw [List.take_succ_eq_append_getElem hk, List.map_append, List.getD_eq_getElem?_getD, List.getElem?_eq_getElem hk]
  rfl
/-- weights so many times as great are right, or too great -/
theorem times_E {zs : List Int} {x : Int} (hx : 1 ≤ x) (hE : wtsE zs = 0) : wtsE (zs.map (x * ·)) = 0 ∨ wtsE (zs.map (x * ·)) = 3 := by
  obtain ⟨h0, hm, hall, hmx⟩ : zs ≠ [] ∧ zs.length ≤ 40 ∧ zs.all wtB = true ∧ Lib.maxOf zs ≠ 0 := by
    rcases wtsE_cases zs with ⟨_, a, b, c, d⟩ | h
    · exact ⟨a, b, c, d⟩
    · omega
  have h0' : zs.map (x * ·) ≠ [] := by simpa using h0
  have hl : (zs.map (x * ·)).length ≤ 40 := by rw [times_len]; exact hm
  cases hb : (zs.map (x * ·)).all wtB with
  | false => exact .inr (wtsE_rng h0' hl hb)
  | true =>
    refine .inl (wtsE_ok h0' hl hb fun hz => hmx ?_)
    have all0 : ∀ z ∈ zs, z = 0 := by
      intro z hz'
      have h1 := (foldl_max_le (zs.map (x * ·)) ((zs.map (x * ·)).headD 0)).2 (x * z) (List.mem_map.2 ⟨z, hz', rfl⟩)
      unfold Lib.maxOf at hz
      rw [hz] at h1
      have h2 := (all_mem hall z hz').1
      rcases Int.lt_or_eq_of_le h2 with g | g
      · have := Int.mul_pos (show 0 < x by omega) g; omega
      · exact g.symm
    unfold Lib.maxOf
    refine foldl_max_zero zs _ ?_ all0
    cases zs with
    | nil => rfl
    | cons a zs => exact all0 a (by simp)

theorem shareTimes_err (c : Int) (hc : 1 ≤ c) (many kind x : Int) (v : Value) (w : World) (S : Calls Try.prog 12 #[.int .i64 many, v, .int .i64 kind] w fun e w' => e = .returned (.tuple #[.slice none 0 0, .int .i64 c]) ∧ w = w') :
    Calls Try.prog 8 #[.int .i64 many, v, .int .i64 kind, .int .i64 x] w fun r w' => r = .returned (.bool true) ∧ Below w.heap.size w w' := by
  have HS := Lib.hid S
  clear S
  have q : (c == 0) = false := beq_eq_false_iff_ne.2 (by omega)
  go_enter Try.func8, Try.ntmps8
  go_wp2_with (first
    | (go_at_call 12; (with_reducible refine HS.out.mono ?_); rintro e w' ⟨rfl, rfl⟩)
    | (go_at_call 15; (with_reducible refine (shareBegun _).mono ?_); rintro e w2 ⟨rfl, b2⟩))
  go_ret
  exact ⟨rfl, b2⟩

set_option maxRecDepth 100000 in
set_option maxHeartbeats 2000000 in
theorem shareTimes_ones (b off cap : Nat) (zs : List Int) (many : Nat) (x : Int) (hmany : many ≤ 500) (w : World) (hr : Reads w (.slice (some ⟨b, off, none⟩) zs.length cap) zs) (hE : wtsE zs = 0) :
    Calls Try.prog 8 #[.int .i64 many, .slice (some ⟨b, off, none⟩) zs.length cap, .int .i64 1, .int .i64 x] w fun r w' => r = .returned (.bool true) ∧ Below w.heap.size w w' := by
  have HS := Lib.hid (seats_back (seats_ones b off cap zs many hmany w hr hE) (sts_len byOnes zs many))
  obtain ⟨h0, hm, hall⟩ : zs ≠ [] ∧ zs.length ≤ 40 ∧ zs.all wtB = true := by
    rcases wtsE_cases zs with ⟨_, a, b, c, _⟩ | h
    · exact ⟨a, b, c⟩
    · omega
  have hp : 0 < zs.length := List.length_pos_iff.2 h0
  have hcells : ∀ j, j < zs.length → w.cell? ⟨b, off + j, none⟩ = some (.int .i64 (zs.getD j 0)) := by
    rcases hr.cell with ⟨rfl, _⟩ | ⟨_, b', off', cap', e, hc⟩
    · exact absurd rfl h0
    · injection e with e1 e2 e3
      injection e1 with e1
      injection e1 with e1 e2
      subst e1 e2
      exact hc
  have HW := Lib.hid hcells
  have HWB := Lib.hid (fun k => wt_at hall k)
  have HEE := Lib.hid hE
  have HSL := Lib.hid (sts_len byOnes zs many)
  clear hr hE h0 hall hcells
  by_cases x0 : x < 1
  · go_enter Try.func8, Try.ntmps8
    go_wp2_with (first
      | (go_at_call 12; (with_reducible refine HS.out.mono ?_); rintro e w1 ⟨g, rfl, r1, b1⟩; have R1 := Lib.hid r1; have B1 := Lib.hid b1; clear r1 b1)
      | (go_at_call 15; (with_reducible refine (shareBegun _).mono ?_); rintro e w2 ⟨rfl, b2⟩; have B2 := Lib.hid b2; clear b2))
    go_ret
    exact ⟨rfl, bel B1.out B2.out⟩
  · by_cases x1 : 1000 < x
    · go_enter Try.func8, Try.ntmps8
      go_wp2_with (first
        | (go_at_call 12; (with_reducible refine HS.out.mono ?_); rintro e w1 ⟨g, rfl, r1, b1⟩; have R1 := Lib.hid r1; have B1 := Lib.hid b1; clear r1 b1)
        | (go_at_call 15; (with_reducible refine (shareBegun _).mono ?_); rintro e w2 ⟨rfl, b2⟩; have B2 := Lib.hid b2; clear b2))
      go_ret
      exact ⟨rfl, bel B1.out B2.out⟩
    · have x2 : 1 ≤ x := by omega
      have x3 : x ≤ 1000 := by omega
      clear x0 x1
      go_enter Try.func8, Try.ntmps8
      go_wp2_with (first
        | (go_at_call 12; (with_reducible refine HS.out.mono ?_); clear HS; rintro e w1 ⟨g, rfl, r1, b1⟩; have R1 := Lib.hid r1; have B1 := Lib.hid b1; clear r1 b1)
        | (go_at_call 15; (with_reducible refine (shareBegun _).mono ?_); rintro e w2 ⟨rfl, b2⟩; have B2 := Lib.hid b2; clear b2))
      go_loopw [11, 12] (fun v i wr => ∃ k : Nat, k ≤ zs.length ∧ i = .int .i64 k ∧ Hid (Owns wr w2.heap.size v ((zs.take k).map (x * ·))) ∧ Hid (Below w2.heap.size w2 wr)) (fun _ i _ => zs.length - (intOf i).toNat)
      case atStart => exact ⟨0, Nat.zero_le _, rfl, Owns.nil _ _, Below.refl _ _⟩
      case round =>
        obtain ⟨k, hk, rfl, HO, HB⟩ := hrel
        by_cases hlt : k < zs.length
        · have hc := HW.out k hlt
          have c1 := ((bel (bel B1.out B2.out) HB.out).cell (p := ⟨b, off + k, none⟩) (cell_in hc)).trans hc
          have zb := HWB.out k
          have sn := times_snoc x zs hlt
          clear hc
          generalize zs.getD k 0 = z at c1 zb sn
          have SN := Lib.hid sn
          clear sn
          have mb := mul_bd zb.1 zb.2 (show 0 ≤ x by omega) (show x ≤ 2001 by omega)
          rw [Int.mul_comm] at mb
          have HL : Hid (((zs.take k).map (x * ·)).length + 1 ≤ 1000000) := by unfold Hid; rw [List.length_map, List.length_take]; omega
          go_wp2_with (at_builtin; refine wp_append1 rfl (.tmp 40) (.tmp 47) rfl w2.heap.size _ _ (x * z) wr rfl HO.out rfl HL.out HB.out.size ?_; intro v' w' ho' hb'; have HO' := Lib.hid ho'; have HB' := Lib.hid hb'; clear ho' hb')
          go_roundw
          case rel => exact ⟨k + 1, by omega, by go_num, by unfold Hid; rw [← SN.out]; exact HO'.out, HB.out.trans HB'.out⟩
          case measure => simp [intOf]; omega
        · obtain rfl : k = zs.length := by omega
          have ho := HO.out
          rw [List.take_length] at ho
          clear HO
          obtain ⟨a, cap2, hv, hrd⟩ := ho.reads
          rw [times_len] at hv
          have hl := times_len x zs
          rcases hrd.cell with ⟨he, _⟩ | ⟨_, b', off', cap', hv', hc'⟩
          · rw [he] at hl; simp at hl; omega
          · rw [hl] at hv'
            rw [hv] at hv'
            injection hv' with e1 e2 e3
            subst e1 e3 hv
            rcases times_E x2 HEE.out with hE2 | hE2
            · have S2 := seats_back (seats_ones b' off' cap2 (zs.map (x * ·)) many hmany wr (by rw [hl]; exact hrd) hE2) (sts_len byOnes (zs.map (x * ·)) many)
              rw [sts_times byOnes zs x (by omega), hl] at S2
              have HS2 := Lib.hid S2
              have SR : Hid (∀ g2 w3, Row w3 g (sts byOnes zs many) → Row w3 g2 (sts byOnes zs many) → Calls Try.prog 18 #[.slice (some ⟨g, 0, none⟩) zs.length zs.length, .slice (some ⟨g2, 0, none⟩) zs.length zs.length] w3 fun e w' => e = .returned (.bool true) ∧ Grew w3 w') := by
                intro g2 w3 r1 r2
                have m1 : (sts byOnes zs many).length ≤ maxLen := by rw [HSL.out]; unfold maxLen; omega
                have := same_run _ _ (sts byOnes zs many) w3 (r1.reads m1 zs.length) (r2.reads m1 zs.length)
                rw [HSL.out] at this
                exact this
              clear S2 hE2 hrd hc' ho
              go_wp2_with (first
                | (go_at_call 12; (with_reducible refine HS2.out.mono ?_); rintro e w3 ⟨g2, rfl, r3, b3⟩; have R3 := Lib.hid r3; have B3 := Lib.hid b3; clear r3 b3)
                | (go_at_call 18; (with_reducible refine (SR.out g2 w3 (((R1.out.on B2.out).on HB.out).on B3.out) R3.out).mono ?_); rintro e w4 ⟨rfl, g4⟩; have G4 := Lib.hid g4; clear g4))
              go_ret
              exact ⟨rfl, bel (bel (bel (bel B1.out B2.out) HB.out) B3.out) G4.out.below⟩
            · have S2 := seats_bad (.slice (some ⟨b', off', none⟩) zs.length cap2) (zs.map (x * ·)) many 1 wr hrd (by omega) (by omega)
              rw [hE2] at S2
              have HS2 := Lib.hid S2
              clear S2 hE2 hrd hc' ho
              go_wp2_with (go_at_call 12; (with_reducible refine HS2.out.mono ?_); rintro e w3 ⟨rfl, rfl⟩)
              go_ret
              exact ⟨rfl, bel (bel B1.out B2.out) HB.out⟩

set_option maxRecDepth 100000 in
set_option maxHeartbeats 2000000 in
theorem shareTimes_odds (b off cap : Nat) (zs : List Int) (many : Nat) (x : Int) (hmany : many ≤ 500) (w : World) (hr : Reads w (.slice (some ⟨b, off, none⟩) zs.length cap) zs) (hE : wtsE zs = 0) :
    Calls Try.prog 8 #[.int .i64 many, .slice (some ⟨b, off, none⟩) zs.length cap, .int .i64 2, .int .i64 x] w fun r w' => r = .returned (.bool true) ∧ Below w.heap.size w w' := by
  have HS := Lib.hid (seats_back (seats_odds b off cap zs many hmany w hr hE) (sts_len byOdds zs many))
  obtain ⟨h0, hm, hall⟩ : zs ≠ [] ∧ zs.length ≤ 40 ∧ zs.all wtB = true := by
    rcases wtsE_cases zs with ⟨_, a, b, c, _⟩ | h
    · exact ⟨a, b, c⟩
    · omega
  have hp : 0 < zs.length := List.length_pos_iff.2 h0
  have hcells : ∀ j, j < zs.length → w.cell? ⟨b, off + j, none⟩ = some (.int .i64 (zs.getD j 0)) := by
    rcases hr.cell with ⟨rfl, _⟩ | ⟨_, b', off', cap', e, hc⟩
    · exact absurd rfl h0
    · injection e with e1 e2 e3
      injection e1 with e1
      injection e1 with e1 e2
      subst e1 e2
      exact hc
  have HW := Lib.hid hcells
  have HWB := Lib.hid (fun k => wt_at hall k)
  have HEE := Lib.hid hE
  have HSL := Lib.hid (sts_len byOdds zs many)
  clear hr hE h0 hall hcells
  by_cases x0 : x < 1
  · go_enter Try.func8, Try.ntmps8
    go_wp2_with (first
      | (go_at_call 12; (with_reducible refine HS.out.mono ?_); rintro e w1 ⟨g, rfl, r1, b1⟩; have R1 := Lib.hid r1; have B1 := Lib.hid b1; clear r1 b1)
      | (go_at_call 15; (with_reducible refine (shareBegun _).mono ?_); rintro e w2 ⟨rfl, b2⟩; have B2 := Lib.hid b2; clear b2))
    go_ret
    exact ⟨rfl, bel B1.out B2.out⟩
  · by_cases x1 : 1000 < x
    · go_enter Try.func8, Try.ntmps8
      go_wp2_with (first
        | (go_at_call 12; (with_reducible refine HS.out.mono ?_); rintro e w1 ⟨g, rfl, r1, b1⟩; have R1 := Lib.hid r1; have B1 := Lib.hid b1; clear r1 b1)
        | (go_at_call 15; (with_reducible refine (shareBegun _).mono ?_); rintro e w2 ⟨rfl, b2⟩; have B2 := Lib.hid b2; clear b2))
      go_ret
      exact ⟨rfl, bel B1.out B2.out⟩
    · have x2 : 1 ≤ x := by omega
      have x3 : x ≤ 1000 := by omega
      clear x0 x1
      go_enter Try.func8, Try.ntmps8
      go_wp2_with (first
        | (go_at_call 12; (with_reducible refine HS.out.mono ?_); clear HS; rintro e w1 ⟨g, rfl, r1, b1⟩; have R1 := Lib.hid r1; have B1 := Lib.hid b1; clear r1 b1)
        | (go_at_call 15; (with_reducible refine (shareBegun _).mono ?_); rintro e w2 ⟨rfl, b2⟩; have B2 := Lib.hid b2; clear b2))
      go_loopw [11, 12] (fun v i wr => ∃ k : Nat, k ≤ zs.length ∧ i = .int .i64 k ∧ Hid (Owns wr w2.heap.size v ((zs.take k).map (x * ·))) ∧ Hid (Below w2.heap.size w2 wr)) (fun _ i _ => zs.length - (intOf i).toNat)
      case atStart => exact ⟨0, Nat.zero_le _, rfl, Owns.nil _ _, Below.refl _ _⟩
      case round =>
        obtain ⟨k, hk, rfl, HO, HB⟩ := hrel
        by_cases hlt : k < zs.length
        · have hc := HW.out k hlt
          have c1 := ((bel (bel B1.out B2.out) HB.out).cell (p := ⟨b, off + k, none⟩) (cell_in hc)).trans hc
          have zb := HWB.out k
          have sn := times_snoc x zs hlt
          clear hc
          generalize zs.getD k 0 = z at c1 zb sn
          have SN := Lib.hid sn
          clear sn
          have mb := mul_bd zb.1 zb.2 (show 0 ≤ x by omega) (show x ≤ 2001 by omega)
          rw [Int.mul_comm] at mb
          have HL : Hid (((zs.take k).map (x * ·)).length + 1 ≤ 1000000) := by unfold Hid; rw [List.length_map, List.length_take]; omega
          go_wp2_with (at_builtin; refine wp_append1 rfl (.tmp 40) (.tmp 47) rfl w2.heap.size _ _ (x * z) wr rfl HO.out rfl HL.out HB.out.size ?_; intro v' w' ho' hb'; have HO' := Lib.hid ho'; have HB' := Lib.hid hb'; clear ho' hb')
          go_roundw
          case rel => exact ⟨k + 1, by omega, by go_num, by unfold Hid; rw [← SN.out]; exact HO'.out, HB.out.trans HB'.out⟩
          case measure => simp [intOf]; omega
        · obtain rfl : k = zs.length := by omega
          have ho := HO.out
          rw [List.take_length] at ho
          clear HO
          obtain ⟨a, cap2, hv, hrd⟩ := ho.reads
          rw [times_len] at hv
          have hl := times_len x zs
          rcases hrd.cell with ⟨he, _⟩ | ⟨_, b', off', cap', hv', hc'⟩
          · rw [he] at hl; simp at hl; omega
          · rw [hl] at hv'
            rw [hv] at hv'
            injection hv' with e1 e2 e3
            subst e1 e3 hv
            rcases times_E x2 HEE.out with hE2 | hE2
            · have S2 := seats_back (seats_odds b' off' cap2 (zs.map (x * ·)) many hmany wr (by rw [hl]; exact hrd) hE2) (sts_len byOdds (zs.map (x * ·)) many)
              rw [sts_times byOdds zs x (by omega), hl] at S2
              have HS2 := Lib.hid S2
              have SR : Hid (∀ g2 w3, Row w3 g (sts byOdds zs many) → Row w3 g2 (sts byOdds zs many) → Calls Try.prog 18 #[.slice (some ⟨g, 0, none⟩) zs.length zs.length, .slice (some ⟨g2, 0, none⟩) zs.length zs.length] w3 fun e w' => e = .returned (.bool true) ∧ Grew w3 w') := by
                intro g2 w3 r1 r2
                have m1 : (sts byOdds zs many).length ≤ maxLen := by rw [HSL.out]; unfold maxLen; omega
                have := same_run _ _ (sts byOdds zs many) w3 (r1.reads m1 zs.length) (r2.reads m1 zs.length)
                rw [HSL.out] at this
                exact this
              clear S2 hE2 hrd hc' ho
              go_wp2_with (first
                | (go_at_call 12; (with_reducible refine HS2.out.mono ?_); rintro e w3 ⟨g2, rfl, r3, b3⟩; have R3 := Lib.hid r3; have B3 := Lib.hid b3; clear r3 b3)
                | (go_at_call 18; (with_reducible refine (SR.out g2 w3 (((R1.out.on B2.out).on HB.out).on B3.out) R3.out).mono ?_); rintro e w4 ⟨rfl, g4⟩; have G4 := Lib.hid g4; clear g4))
              go_ret
              exact ⟨rfl, bel (bel (bel (bel B1.out B2.out) HB.out) B3.out) G4.out.below⟩
            · have S2 := seats_bad (.slice (some ⟨b', off', none⟩) zs.length cap2) (zs.map (x * ·)) many 2 wr hrd (by omega) (by omega)
              rw [hE2] at S2
              have HS2 := Lib.hid S2
              clear S2 hE2 hrd hc' ho
              go_wp2_with (go_at_call 12; (with_reducible refine HS2.out.mono ?_); rintro e w3 ⟨rfl, rfl⟩)
              go_ret
              exact ⟨rfl, bel (bel B1.out B2.out) HB.out⟩

theorem shareTimes_walk (many kind x : Int) (v : Value) (zs : List Int) (w : World) (hr : Reads w v zs) :
    Calls Try.prog 8 #[.int .i64 many, v, .int .i64 kind, .int .i64 x] w fun r w' => r = .returned (.bool true) ∧ Below w.heap.size w w' := by
  rcases wtsE_cases zs with ⟨hE, h0, hm, _⟩ | ⟨h1, h4⟩
  · by_cases hb : 0 ≤ many ∧ many ≤ 500
    · by_cases k1 : kind = 1
      · subst k1
        obtain ⟨t, rfl⟩ : ∃ t : Nat, many = t := ⟨many.toNat, by omega⟩
        rcases hr.cell with ⟨rfl, _⟩ | ⟨_, b, off, cap, rfl, hc⟩
        · exact absurd rfl h0
        · exact shareTimes_ones b off cap zs t x (by omega) w hr hE
      · by_cases k2 : kind = 2
        · subst k2
          obtain ⟨t, rfl⟩ : ∃ t : Nat, many = t := ⟨many.toNat, by omega⟩
          rcases hr.cell with ⟨rfl, _⟩ | ⟨_, b, off, cap, rfl, hc⟩
          · exact absurd rfl h0
          · exact shareTimes_odds b off cap zs t x (by omega) w hr hE
        · exact shareTimes_err 7 (by omega) many kind x v w (seats_kind v zs many kind w hr hE hb.1 hb.2 k1 k2)
    · exact shareTimes_err 3 (by omega) many kind x v w (seats_rng v zs many kind w hr hE (by omega))
  · exact shareTimes_err (wtsE zs) h1 many kind x v w (seats_bad v zs many kind w hr h1 h4)

end Go.Proofs.Yteidcplhneiaoab
