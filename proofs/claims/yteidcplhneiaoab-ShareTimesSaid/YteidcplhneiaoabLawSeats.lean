/-
  ShareSeats: the law answers true.
-/
import Derived.Test.YteidcplhneiaoabLawLeast
namespace Go.Proofs.Yteidcplhneiaoab
open Go.RowKit Go.Lib
set_option linter.unusedVariables false

theorem Reads.below {w w' : World} {v : Value} {zs : List Int} (h : Reads w v zs) (g : Below w.heap.size w w') : Reads w' v zs := by
  obtain ⟨a, cap, rfl, hm, hc⟩ := h
  refine ⟨a, cap, rfl, hm, fun j hj => ?_⟩
  obtain ⟨b, off, rfl, h'⟩ := hc j hj
  exact ⟨b, off, rfl, (g.cell (p := ⟨b, off + j, none⟩) (cell_in h')).trans h'⟩

set_option maxHeartbeats 400000 in
theorem together_some (b off cap : Nat) (zs : List Int) (w : World) (hm : zs.length ≤ maxLen) (hc : ∀ j, j < zs.length → w.cell? ⟨b, off + j, none⟩ = some (.int .i64 (zs.getD j 0))) (hb : ∀ k, k ≤ zs.length → 0 ≤ (zs.take k).sum ∧ (zs.take k).sum ≤ 4611686018427387904) :
    Calls Try.prog 19 #[.slice (some ⟨b, off, none⟩) zs.length cap] w fun e w' => e = .returned (.int .i64 zs.sum) ∧ w = w' := by
  unfold maxLen at hm
  have HC := Lib.hid hc
  have HB := Lib.hid hb
  clear hc hb
  go_enter Try.func19, Try.ntmps19
  go_wp2
  go_loop [3, 4] (fun s i => ∃ k : Nat, k ≤ zs.length ∧ i = .int .i64 k ∧ s = .int .i64 (zs.take k).sum) (fun _ i => zs.length - (intOf i).toNat)
  case atStart => exact ⟨0, Nat.zero_le _, rfl, rfl⟩
  case round =>
    obtain ⟨k, hk, rfl, rfl⟩ := hrel
    by_cases hlt : k < zs.length
    · have c1 := HC.out k hlt
      have b1 := HB.out k hk
      have b2 := HB.out (k + 1) hlt
      have ts := take_sum hlt
      rw [ts] at b2
      generalize zs.getD k 0 = z at c1 b2 ts
      have TS := Lib.hid ts
      clear ts
      generalize (zs.take k).sum = L at b1 b2 TS ⊢
      go_wp2
      go_round
      case rel => exact ⟨k + 1, by omega, by go_num, by rw [TS.out]⟩
      case measure => simp [intOf]; omega
    · have e : zs.take k = zs := List.take_of_length_le (by omega)
      rw [e]
      clear e
      go_wp2
      go_ret
      exact ⟨rfl, rfl⟩

/-- whatever it is handed, Seats returns -/
theorem seats_any (many kind : Int) (v : Value) (zs : List Int) (w : World) (hr : Reads w v zs) :
    Calls Try.prog 12 #[.int .i64 many, v, .int .i64 kind] w fun e w' => (∃ a n c, e = .returned (.tuple #[.slice a n n, .int .i64 c])) ∧ Below w.heap.size w w' := by
  have bad : ∀ c, (Calls Try.prog 12 #[.int .i64 many, v, .int .i64 kind] w fun e w' => e = .returned (.tuple #[.slice none 0 0, .int .i64 c]) ∧ w = w') → Calls Try.prog 12 #[.int .i64 many, v, .int .i64 kind] w fun e w' => (∃ a n c, e = .returned (.tuple #[.slice a n n, .int .i64 c])) ∧ Below w.heap.size w w' := by
    intro c h
    refine h.mono ?_
    rintro e w' ⟨rfl, rfl⟩
    exact ⟨⟨none, 0, c, rfl⟩, Below.refl _ _⟩
  have good : ∀ ss, Calls Try.prog 12 #[.int .i64 many, v, .int .i64 kind] w (Gives w ss) → Calls Try.prog 12 #[.int .i64 many, v, .int .i64 kind] w fun e w' => (∃ a n c, e = .returned (.tuple #[.slice a n n, .int .i64 c])) ∧ Below w.heap.size w w' := by
    intro ss h
    refine h.mono ?_
    rintro e w' ⟨g, rfl, _, _, hg⟩
    exact ⟨⟨_, _, _, rfl⟩, hg.below⟩
  rcases wtsE_cases zs with ⟨hE, h0, hm, _⟩ | ⟨h1, h4⟩
  · by_cases hb : 0 ≤ many ∧ many ≤ 500
    · by_cases k1 : kind = 1
      · subst k1
        obtain ⟨t, rfl⟩ : ∃ t : Nat, many = t := ⟨many.toNat, by omega⟩
        rcases hr.cell with ⟨rfl, _⟩ | ⟨_, b, off, cap, rfl, hc⟩
        · exact absurd rfl h0
        · exact good _ (seats_ones b off cap zs t (by omega) w hr hE)
      · by_cases k2 : kind = 2
        · subst k2
          obtain ⟨t, rfl⟩ : ∃ t : Nat, many = t := ⟨many.toNat, by omega⟩
          rcases hr.cell with ⟨rfl, _⟩ | ⟨_, b, off, cap, rfl, hc⟩
          · exact absurd rfl h0
          · exact good _ (seats_odds b off cap zs t (by omega) w hr hE)
        · exact bad _ (seats_kind v zs many kind w hr hE hb.1 hb.2 k1 k2)
    · exact bad _ (seats_rng v zs many kind w hr hE (by omega))
  · exact bad _ (seats_bad v zs many kind w hr h1 h4)

theorem shareSeats_err (c : Int) (hc : 1 ≤ c) (many kind : Int) (v : Value) (zs : List Int) (w : World) (hr : Reads w v zs) (S : Calls Try.prog 12 #[.int .i64 many, v, .int .i64 kind] w fun e w' => e = .returned (.tuple #[.slice none 0 0, .int .i64 c]) ∧ w = w') :
    Calls Try.prog 6 #[.int .i64 many, v, .int .i64 kind] w fun r w' => r = .returned (.bool true) ∧ Below w.heap.size w w' := by
  have HS := Lib.hid S
  have HA := Lib.hid (fun m => seats_any m kind v zs w hr)
  clear S hr
  have q : (c == 0) = false := beq_eq_false_iff_ne.2 (by omega)
  go_enter Try.func6, Try.ntmps6
  go_wp2_with (first
    | (go_at_call 12; (with_reducible refine HS.out.mono ?_); clear HS; rintro e w' ⟨rfl, rfl⟩)
    | (go_at_call 12; (with_reducible refine (HA.out _).mono ?_); rintro e w1 ⟨⟨a, n, d, rfl⟩, b1⟩; have B1 := Lib.hid b1; clear b1)
    | (go_at_call 15; (with_reducible refine (shareBegun _).mono ?_); rintro e w2 ⟨rfl, b2⟩))
  go_ret
  exact ⟨rfl, bel B1.out b2⟩

/-- one has one more -/
def oneB (p k : Nat) : Int := if p < k then 1 else 0
theorem one_in {p k : Nat} (h : p = k) : oneB p k = 0 ∧ oneB p (k + 1) = 1 := by unfold oneB; rw [if_neg (by omega), if_pos (by omega)]; exact ⟨rfl, rfl⟩
theorem one_out {p k : Nat} (h : p ≠ k) : oneB p (k + 1) = oneB p k := by
  unfold oneB
  by_cases g : p < k
  · rw [if_pos g, if_pos (by omega)]
  · rw [if_neg g, if_neg (by omega)]
theorem one_bd (p k : Nat) : 0 ≤ oneB p k ∧ oneB p k ≤ 1 := by unfold oneB; split <;> omega
theorem ne_succ (z : Int) : ((z + 1) != z) = true := by simp; omega
theorem take_bd {ss : List Int} {t : Nat} (h : ∀ k, 0 ≤ ss.getD k 0 ∧ ss.getD k 0 ≤ t) (hl : ss.length ≤ 40) (ht : t ≤ 500) : ∀ k, k ≤ ss.length → 0 ≤ (ss.take k).sum ∧ (ss.take k).sum ≤ 4611686018427387904 := by
  intro k hk
  have mem : ∀ x ∈ ss.take k, 0 ≤ x ∧ x ≤ t := by
    intro x hx
    obtain ⟨j, hj, rfl⟩ := List.getElem_of_mem (List.mem_of_mem_take hx)
    have := h j
    rwa [List.getD_eq_getElem?_getD, List.getElem?_eq_getElem hj] at this
  refine ⟨sum_nonneg fun x hx => (mem x hx).1, ?_⟩
  have h1 := sum_le fun x hx => (mem x hx).2
  have h2 : ((ss.take k).length : Int) ≤ 40 := by rw [List.length_take]; omega
  have h3 : (t : Int) * ((ss.take k).length : Int) ≤ 500 * 40 := Int.mul_le_mul (by omega) h2 (by omega) (by omega)
  omega

set_option maxRecDepth 100000 in
set_option maxHeartbeats 2000000 in
theorem shareSeats_ones (b off cap : Nat) (zs : List Int) (many : Nat) (hmany : many < 500) (w : World) (hr : Reads w (.slice (some ⟨b, off, none⟩) zs.length cap) zs) (hE : wtsE zs = 0) :
    Calls Try.prog 6 #[.int .i64 many, .slice (some ⟨b, off, none⟩) zs.length cap, .int .i64 1] w fun r w' => r = .returned (.bool true) ∧ Below w.heap.size w w' := by
  have HS := Lib.hid (seats_back (seats_ones b off cap zs many (by omega) w hr hE) (sts_len byOnes zs many))
  have HS2 : Hid (∀ w1, Below w.heap.size w w1 → Calls Try.prog 12 #[.int .i64 ((many : Int) + 1), .slice (some ⟨b, off, none⟩) zs.length cap, .int .i64 1] w1 fun e w' => ∃ g, e = .returned (.tuple #[.slice (some ⟨g, 0, none⟩) zs.length zs.length, .int .i64 0]) ∧ Row w' g (sts byOnes zs (many + 1)) ∧ Below w1.heap.size w1 w') := fun w1 b1 => seats_back (seats_ones b off cap zs (many + 1) (by omega) w1 (hr.below b1) hE) (sts_len byOnes zs (many + 1))
  obtain ⟨h0, hm, hall⟩ : zs ≠ [] ∧ zs.length ≤ 40 ∧ zs.all wtB = true := by
    rcases wtsE_cases zs with ⟨_, a, b, c, _⟩ | h
    · exact ⟨a, b, c⟩
    · omega
  have hp : 0 < zs.length := List.length_pos_iff.2 h0
  have HSB := Lib.hid (fun t => sts_bd byOnes zs h0 many t)
  have HL := Lib.hid (sts_len byOnes zs many)
  have HSM := Lib.hid (sts_sum byOnes zs h0 many)
  have hpl := nx_lt byOnes zs (sts byOnes zs many) hp (Nat.le_refl zs.length)
  have HG : Hid (∀ j, (sts byOnes zs (many + 1)).getD j 0 = if j = nx byOnes zs (sts byOnes zs many) zs.length then (sts byOnes zs many).getD j 0 + 1 else (sts byOnes zs many).getD j 0) := fun j => give_at _ _ j (by rw [sts_len]; exact hpl)
  have HL2 := Lib.hid (sts_len byOnes zs (many + 1))
  generalize nx byOnes zs (sts byOnes zs many) zs.length = p at hpl HG
  generalize sts byOnes zs (many + 1) = tt at HS2 HG HL2
  generalize sts byOnes zs many = ss at HS HSB HL HSM HG
  have HT : Hid (∀ g w', Row w' g ss → Calls Try.prog 19 #[.slice (some ⟨g, 0, none⟩) zs.length zs.length] w' fun e w'' => e = .returned (.int .i64 many) ∧ w' = w'') := by
    intro g w' r
    have := together_some g 0 zs.length ss w' (by rw [HL.out]; unfold maxLen; omega) (fun j hj => by rw [Nat.zero_add]; exact r.cell hj) (take_bd HSB.out (by rw [HL.out]; exact hm) (by omega))
    rw [HL.out, HSM.out] at this
    exact this
  clear hr hE h0 hall
  have e0 : ((zs.length : Int) != (zs.length : Int)) = false := by simp
  go_enter Try.func6, Try.ntmps6
  go_wp2_with (first
    | (go_at_call 12; (with_reducible refine HS.out.mono ?_); clear HS; rintro e w1 ⟨g, rfl, r1, b1⟩; have R1 := Lib.hid r1; have B1 := Lib.hid b1; clear r1 b1)
    | (go_at_call 12; (with_reducible refine (HS2.out w1 B1.out).mono ?_); rintro e w2 ⟨g2, rfl, r2, b2⟩; have R2 := Lib.hid r2; have B2 := Lib.hid b2; clear r2 b2)
    | (go_at_call 15; (with_reducible refine (shareBegun _).mono ?_); rintro e w3 ⟨rfl, b3⟩; have B3 := Lib.hid b3; clear b3)
    | (go_at_call 19; (with_reducible refine (HT.out g w3 ((R1.out.on B2.out).on B3.out)).mono ?_); rintro e w4 ⟨rfl, rfl⟩))
  go_loopw [11, 12] (fun m i wr => ∃ k : Nat, k ≤ zs.length ∧ i = .int .i64 k ∧ m = .int .i64 (oneB p k) ∧ Hid (Below w3.heap.size w3 wr)) (fun _ i _ => zs.length - (intOf i).toNat)
  case atStart => exact ⟨0, Nat.zero_le _, rfl, rfl, Below.refl _ _⟩
  case round =>
    obtain ⟨k, hk, rfl, rfl, HB⟩ := hrel
    have ob := one_bd p k
    by_cases hlt : k < zs.length
    · have c1 := (((R1.out.on B2.out).on B3.out).on HB.out).cell (j := k) (by rw [HL.out]; exact hlt)
      have c2 := ((R2.out.on B3.out).on HB.out).cell (j := k) (by rw [HL2.out]; exact hlt)
      have g1 := HG.out k
      have s1 := HSB.out k
      generalize ss.getD k 0 = z at c1 g1 s1
      rw [g1] at c2
      clear g1
      have k0 : (0 : Int) ≤ k := by omega
      have k1 : (k : Int) < zs.length := by omega
      have ez : IntKind.i64.wrap (z + 1) = z + 1 := IntWalk.i64_in _ (by omega)
      by_cases hpk : k = p
      · rw [if_pos hpk] at c2
        obtain ⟨o1, o2⟩ := one_in hpk.symm
        have O2 := Lib.hid o2
        rw [o1]
        have nz := ne_succ z
        have ne : (z + 1 != z + 1) = false := by simp
        clear o1 o2 ob hpk
        go_wp2
        go_quiet (fail)
        go_wp2
        go_quiet (fail)
        go_wp2
        go_roundw
        case rel => exact ⟨k + 1, by omega, by go_num, by rw [O2.out], below_drewN HB.out _⟩
        case measure => simp [intOf]; omega
      · rw [if_neg hpk] at c2
        have O2 := Lib.hid (one_out (fun h => hpk h.symm))
        have ne : (z != z) = false := by simp
        clear hpk
        generalize oneB p k = m at O2 ob ⊢
        go_wp2
        go_quiet (fail)
        go_wp2
        go_roundw
        case rel => exact ⟨k + 1, by omega, by go_num, by rw [O2.out], below_drewN HB.out _⟩
        case measure => simp [intOf]; omega
    · obtain rfl : k = zs.length := by omega
      have e1 : oneB p zs.length = 1 := by unfold oneB; rw [if_pos hpl]
      rw [e1]
      clear e1 ob
      go_wp2
      go_ret
      exact ⟨rfl, bel (bel (bel B1.out B2.out) B3.out) HB.out⟩

set_option maxRecDepth 100000 in
theorem shareSeats_ones_last (b off cap : Nat) (zs : List Int) (w : World) (hr : Reads w (.slice (some ⟨b, off, none⟩) zs.length cap) zs) (hE : wtsE zs = 0) :
    Calls Try.prog 6 #[.int .i64 500, .slice (some ⟨b, off, none⟩) zs.length cap, .int .i64 1] w fun r w' => r = .returned (.bool true) ∧ Below w.heap.size w w' := by
  have HS : Hid (Calls Try.prog 12 #[.int .i64 500, .slice (some ⟨b, off, none⟩) zs.length cap, .int .i64 1] w fun e w' => ∃ g, e = .returned (.tuple #[.slice (some ⟨g, 0, none⟩) zs.length zs.length, .int .i64 0]) ∧ Row w' g (sts byOnes zs 500) ∧ Below w.heap.size w w') := seats_back (seats_ones b off cap zs 500 (by omega) w hr hE) (sts_len byOnes zs 500)
  have HS2 : Hid (∀ w1, Below w.heap.size w w1 → Calls Try.prog 12 #[.int .i64 501, .slice (some ⟨b, off, none⟩) zs.length cap, .int .i64 1] w1 fun e w' => e = .returned (.tuple #[.slice none 0 0, .int .i64 3]) ∧ w1 = w') := fun w1 b1 => seats_rng _ zs 501 1 w1 (hr.below b1) hE (by omega)
  obtain ⟨h0, hm⟩ : zs ≠ [] ∧ zs.length ≤ 40 := by
    rcases wtsE_cases zs with ⟨_, a, b, _⟩ | h
    · exact ⟨a, b⟩
    · omega
  have HSB := Lib.hid (fun t => sts_bd byOnes zs h0 500 t)
  have HL := Lib.hid (sts_len byOnes zs 500)
  have HSM := Lib.hid (sts_sum byOnes zs h0 500)
  generalize sts byOnes zs 500 = ss at HS HSB HL HSM
  have HT : Hid (∀ g w', Row w' g ss → Calls Try.prog 19 #[.slice (some ⟨g, 0, none⟩) zs.length zs.length] w' fun e w'' => e = .returned (.int .i64 500) ∧ w' = w'') := by
    intro g w' r
    have := together_some g 0 zs.length ss w' (by rw [HL.out]; unfold maxLen; omega) (fun j hj => by rw [Nat.zero_add]; exact r.cell hj) (take_bd HSB.out (by rw [HL.out]; exact hm) (by omega))
    rw [HL.out, HSM.out] at this
    exact this
  clear hr hE h0
  have e0 : ((zs.length : Int) != (zs.length : Int)) = false := by simp
  go_enter Try.func6, Try.ntmps6
  go_wp2_with (first
    | (go_at_call 12; (with_reducible refine HS.out.mono ?_); clear HS; rintro e w1 ⟨g, rfl, r1, b1⟩; have R1 := Lib.hid r1; have B1 := Lib.hid b1; clear r1 b1)
    | (go_at_call 12; (with_reducible refine (HS2.out w1 B1.out).mono ?_); rintro e w2 ⟨rfl, rfl⟩)
    | (go_at_call 15; (with_reducible refine (shareBegun _).mono ?_); rintro e w3 ⟨rfl, b3⟩; have B3 := Lib.hid b3; clear b3)
    | (go_at_call 19; (with_reducible refine (HT.out g w3 (R1.out.on B3.out)).mono ?_); rintro e w4 ⟨rfl, rfl⟩))
  go_ret
  exact ⟨rfl, bel B1.out B3.out⟩

set_option maxRecDepth 100000 in
set_option maxHeartbeats 2000000 in
theorem shareSeats_odds (b off cap : Nat) (zs : List Int) (many : Nat) (hmany : many < 500) (w : World) (hr : Reads w (.slice (some ⟨b, off, none⟩) zs.length cap) zs) (hE : wtsE zs = 0) :
    Calls Try.prog 6 #[.int .i64 many, .slice (some ⟨b, off, none⟩) zs.length cap, .int .i64 2] w fun r w' => r = .returned (.bool true) ∧ Below w.heap.size w w' := by
  have HS := Lib.hid (seats_back (seats_odds b off cap zs many (by omega) w hr hE) (sts_len byOdds zs many))
  have HS2 : Hid (∀ w1, Below w.heap.size w w1 → Calls Try.prog 12 #[.int .i64 ((many : Int) + 1), .slice (some ⟨b, off, none⟩) zs.length cap, .int .i64 2] w1 fun e w' => ∃ g, e = .returned (.tuple #[.slice (some ⟨g, 0, none⟩) zs.length zs.length, .int .i64 0]) ∧ Row w' g (sts byOdds zs (many + 1)) ∧ Below w1.heap.size w1 w') := fun w1 b1 => seats_back (seats_odds b off cap zs (many + 1) (by omega) w1 (hr.below b1) hE) (sts_len byOdds zs (many + 1))
  obtain ⟨h0, hm, hall⟩ : zs ≠ [] ∧ zs.length ≤ 40 ∧ zs.all wtB = true := by
    rcases wtsE_cases zs with ⟨_, a, b, c, _⟩ | h
    · exact ⟨a, b, c⟩
    · omega
  have hp : 0 < zs.length := List.length_pos_iff.2 h0
  have HSB := Lib.hid (fun t => sts_bd byOdds zs h0 many t)
  have HL := Lib.hid (sts_len byOdds zs many)
  have HSM := Lib.hid (sts_sum byOdds zs h0 many)
  have hpl := nx_lt byOdds zs (sts byOdds zs many) hp (Nat.le_refl zs.length)
  have HG : Hid (∀ j, (sts byOdds zs (many + 1)).getD j 0 = if j = nx byOdds zs (sts byOdds zs many) zs.length then (sts byOdds zs many).getD j 0 + 1 else (sts byOdds zs many).getD j 0) := fun j => give_at _ _ j (by rw [sts_len]; exact hpl)
  have HL2 := Lib.hid (sts_len byOdds zs (many + 1))
  generalize nx byOdds zs (sts byOdds zs many) zs.length = p at hpl HG
  generalize sts byOdds zs (many + 1) = tt at HS2 HG HL2
  generalize sts byOdds zs many = ss at HS HSB HL HSM HG
  have HT : Hid (∀ g w', Row w' g ss → Calls Try.prog 19 #[.slice (some ⟨g, 0, none⟩) zs.length zs.length] w' fun e w'' => e = .returned (.int .i64 many) ∧ w' = w'') := by
    intro g w' r
    have := together_some g 0 zs.length ss w' (by rw [HL.out]; unfold maxLen; omega) (fun j hj => by rw [Nat.zero_add]; exact r.cell hj) (take_bd HSB.out (by rw [HL.out]; exact hm) (by omega))
    rw [HL.out, HSM.out] at this
    exact this
  clear hr hE h0 hall
  have e0 : ((zs.length : Int) != (zs.length : Int)) = false := by simp
  go_enter Try.func6, Try.ntmps6
  go_wp2_with (first
    | (go_at_call 12; (with_reducible refine HS.out.mono ?_); clear HS; rintro e w1 ⟨g, rfl, r1, b1⟩; have R1 := Lib.hid r1; have B1 := Lib.hid b1; clear r1 b1)
    | (go_at_call 12; (with_reducible refine (HS2.out w1 B1.out).mono ?_); rintro e w2 ⟨g2, rfl, r2, b2⟩; have R2 := Lib.hid r2; have B2 := Lib.hid b2; clear r2 b2)
    | (go_at_call 15; (with_reducible refine (shareBegun _).mono ?_); rintro e w3 ⟨rfl, b3⟩; have B3 := Lib.hid b3; clear b3)
    | (go_at_call 19; (with_reducible refine (HT.out g w3 ((R1.out.on B2.out).on B3.out)).mono ?_); rintro e w4 ⟨rfl, rfl⟩))
  go_loopw [11, 12] (fun m i wr => ∃ k : Nat, k ≤ zs.length ∧ i = .int .i64 k ∧ m = .int .i64 (oneB p k) ∧ Hid (Below w3.heap.size w3 wr)) (fun _ i _ => zs.length - (intOf i).toNat)
  case atStart => exact ⟨0, Nat.zero_le _, rfl, rfl, Below.refl _ _⟩
  case round =>
    obtain ⟨k, hk, rfl, rfl, HB⟩ := hrel
    have ob := one_bd p k
    by_cases hlt : k < zs.length
    · have c1 := (((R1.out.on B2.out).on B3.out).on HB.out).cell (j := k) (by rw [HL.out]; exact hlt)
      have c2 := ((R2.out.on B3.out).on HB.out).cell (j := k) (by rw [HL2.out]; exact hlt)
      have g1 := HG.out k
      have s1 := HSB.out k
      generalize ss.getD k 0 = z at c1 g1 s1
      rw [g1] at c2
      clear g1
      have k0 : (0 : Int) ≤ k := by omega
      have k1 : (k : Int) < zs.length := by omega
      have ez : IntKind.i64.wrap (z + 1) = z + 1 := IntWalk.i64_in _ (by omega)
      by_cases hpk : k = p
      · rw [if_pos hpk] at c2
        obtain ⟨o1, o2⟩ := one_in hpk.symm
        have O2 := Lib.hid o2
        rw [o1]
        have nz := ne_succ z
        have ne : (z + 1 != z + 1) = false := by simp
        clear o1 o2 ob hpk
        go_wp2
        go_quiet (fail)
        go_wp2
        go_quiet (fail)
        go_wp2
        go_roundw
        case rel => exact ⟨k + 1, by omega, by go_num, by rw [O2.out], below_drewN HB.out _⟩
        case measure => simp [intOf]; omega
      · rw [if_neg hpk] at c2
        have O2 := Lib.hid (one_out (fun h => hpk h.symm))
        have ne : (z != z) = false := by simp
        clear hpk
        generalize oneB p k = m at O2 ob ⊢
        go_wp2
        go_quiet (fail)
        go_wp2
        go_roundw
        case rel => exact ⟨k + 1, by omega, by go_num, by rw [O2.out], below_drewN HB.out _⟩
        case measure => simp [intOf]; omega
    · obtain rfl : k = zs.length := by omega
      have e1 : oneB p zs.length = 1 := by unfold oneB; rw [if_pos hpl]
      rw [e1]
      clear e1 ob
      go_wp2
      go_ret
      exact ⟨rfl, bel (bel (bel B1.out B2.out) B3.out) HB.out⟩

set_option maxRecDepth 100000 in
theorem shareSeats_odds_last (b off cap : Nat) (zs : List Int) (w : World) (hr : Reads w (.slice (some ⟨b, off, none⟩) zs.length cap) zs) (hE : wtsE zs = 0) :
    Calls Try.prog 6 #[.int .i64 500, .slice (some ⟨b, off, none⟩) zs.length cap, .int .i64 2] w fun r w' => r = .returned (.bool true) ∧ Below w.heap.size w w' := by
  have HS : Hid (Calls Try.prog 12 #[.int .i64 500, .slice (some ⟨b, off, none⟩) zs.length cap, .int .i64 2] w fun e w' => ∃ g, e = .returned (.tuple #[.slice (some ⟨g, 0, none⟩) zs.length zs.length, .int .i64 0]) ∧ Row w' g (sts byOdds zs 500) ∧ Below w.heap.size w w') := seats_back (seats_odds b off cap zs 500 (by omega) w hr hE) (sts_len byOdds zs 500)
  have HS2 : Hid (∀ w1, Below w.heap.size w w1 → Calls Try.prog 12 #[.int .i64 501, .slice (some ⟨b, off, none⟩) zs.length cap, .int .i64 2] w1 fun e w' => e = .returned (.tuple #[.slice none 0 0, .int .i64 3]) ∧ w1 = w') := fun w1 b1 => seats_rng _ zs 501 2 w1 (hr.below b1) hE (by omega)
  obtain ⟨h0, hm⟩ : zs ≠ [] ∧ zs.length ≤ 40 := by
    rcases wtsE_cases zs with ⟨_, a, b, _⟩ | h
    · exact ⟨a, b⟩
    · omega
  have HSB := Lib.hid (fun t => sts_bd byOdds zs h0 500 t)
  have HL := Lib.hid (sts_len byOdds zs 500)
  have HSM := Lib.hid (sts_sum byOdds zs h0 500)
  generalize sts byOdds zs 500 = ss at HS HSB HL HSM
  have HT : Hid (∀ g w', Row w' g ss → Calls Try.prog 19 #[.slice (some ⟨g, 0, none⟩) zs.length zs.length] w' fun e w'' => e = .returned (.int .i64 500) ∧ w' = w'') := by
    intro g w' r
    have := together_some g 0 zs.length ss w' (by rw [HL.out]; unfold maxLen; omega) (fun j hj => by rw [Nat.zero_add]; exact r.cell hj) (take_bd HSB.out (by rw [HL.out]; exact hm) (by omega))
    rw [HL.out, HSM.out] at this
    exact this
  clear hr hE h0
  have e0 : ((zs.length : Int) != (zs.length : Int)) = false := by simp
  go_enter Try.func6, Try.ntmps6
  go_wp2_with (first
    | (go_at_call 12; (with_reducible refine HS.out.mono ?_); clear HS; rintro e w1 ⟨g, rfl, r1, b1⟩; have R1 := Lib.hid r1; have B1 := Lib.hid b1; clear r1 b1)
    | (go_at_call 12; (with_reducible refine (HS2.out w1 B1.out).mono ?_); rintro e w2 ⟨rfl, rfl⟩)
    | (go_at_call 15; (with_reducible refine (shareBegun _).mono ?_); rintro e w3 ⟨rfl, b3⟩; have B3 := Lib.hid b3; clear b3)
    | (go_at_call 19; (with_reducible refine (HT.out g w3 (R1.out.on B3.out)).mono ?_); rintro e w4 ⟨rfl, rfl⟩))
  go_ret
  exact ⟨rfl, bel B1.out B3.out⟩

theorem shareSeats_walk (many kind : Int) (v : Value) (zs : List Int) (w : World) (hr : Reads w v zs) :
    Calls Try.prog 6 #[.int .i64 many, v, .int .i64 kind] w fun r w' => r = .returned (.bool true) ∧ Below w.heap.size w w' := by
  rcases wtsE_cases zs with ⟨hE, h0, hm, _⟩ | ⟨h1, h4⟩
  · by_cases hb : 0 ≤ many ∧ many ≤ 500
    · by_cases k1 : kind = 1
      · subst k1
        obtain ⟨t, rfl⟩ : ∃ t : Nat, many = t := ⟨many.toNat, by omega⟩
        rcases hr.cell with ⟨rfl, _⟩ | ⟨_, b, off, cap, rfl, hc⟩
        · exact absurd rfl h0
        · by_cases h5 : t = 500
          · subst h5; exact shareSeats_ones_last b off cap zs w hr hE
          · exact shareSeats_ones b off cap zs t (by omega) w hr hE
      · by_cases k2 : kind = 2
        · subst k2
          obtain ⟨t, rfl⟩ : ∃ t : Nat, many = t := ⟨many.toNat, by omega⟩
          rcases hr.cell with ⟨rfl, _⟩ | ⟨_, b, off, cap, rfl, hc⟩
          · exact absurd rfl h0
          · by_cases h5 : t = 500
            · subst h5; exact shareSeats_odds_last b off cap zs w hr hE
            · exact shareSeats_odds b off cap zs t (by omega) w hr hE
        · exact shareSeats_err 7 (by omega) many kind v zs w hr (seats_kind v zs many kind w hr hE hb.1 hb.2 k1 k2)
    · exact shareSeats_err 3 (by omega) many kind v zs w hr (seats_rng v zs many kind w hr hE (by omega))
  · exact shareSeats_err (wtsE zs) h1 many kind v zs w hr (seats_bad v zs many kind w hr h1 h4)

end Go.Proofs.Yteidcplhneiaoab
