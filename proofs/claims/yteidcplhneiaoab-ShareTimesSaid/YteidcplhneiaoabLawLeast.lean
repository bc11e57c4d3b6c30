/-
  ShareLeast, ShareOdds: the laws answer true.
-/
import Derived.Test.YteidcplhneiaoabShareBegun
import Derived.WalkSmall
namespace Go.Proofs.Yteidcplhneiaoab
open Go.RowKit Go.Lib
set_option linter.unusedVariables false

/-- the seats of a kind, in the words of a law -/
theorem seats_back {w : World} {args : Array Value} {ss : List Int} {n : Nat} (h : Calls Try.prog 12 args w (Gives w ss)) (hn : ss.length = n) :
    Calls Try.prog 12 args w fun e w' => ∃ g, e = .returned (.tuple #[.slice (some ⟨g, 0, none⟩) n n, .int .i64 0]) ∧ Row w' g ss ∧ Below w.heap.size w w' := by
  subst hn
  refine h.mono ?_
  rintro e w' ⟨g, rfl, _, h1, h2⟩
  exact ⟨g, rfl, h1, h2.below⟩
theorem mulw {a b : Int} (h1 : 0 ≤ a) (h2 : a ≤ 1099511627776) (h3 : 0 ≤ b) (h4 : b ≤ 2001) : IntKind.i64.wrap (a * b) = a * b := by
  have := mul_bd h1 h2 h3 h4
  exact IntWalk.i64_in _ (by omega)

theorem shareLeast_err (c : Int) (hc : 1 ≤ c) (many i k : Int) (v : Value) (w : World) (S : Calls Try.prog 12 #[.int .i64 many, v, .int .i64 1] w fun e w' => e = .returned (.tuple #[.slice none 0 0, .int .i64 c]) ∧ w = w') :
    Calls Try.prog 7 #[.int .i64 many, v, .int .i64 i, .int .i64 k] w fun r w' => r = .returned (.bool true) ∧ Below w.heap.size w w' := by
  have HS := Lib.hid S
  clear S
  have q : (c == 0) = false := beq_eq_false_iff_ne.2 (by omega)
  go_enter Try.func7, Try.ntmps7
  go_wp2_with (first
    | (go_at_call 12; (with_reducible refine HS.out.mono ?_); rintro e w' ⟨rfl, rfl⟩)
    | (go_at_call 15; (with_reducible refine (shareBegun _).mono ?_); rintro e w2 ⟨rfl, b2⟩))
  go_ret
  exact ⟨rfl, b2⟩

set_option maxRecDepth 100000 in
set_option maxHeartbeats 2000000 in
theorem shareLeast_ok (b off cap : Nat) (zs : List Int) (many : Nat) (i k : Int) (hmany : many ≤ 500) (w : World) (hr : Reads w (.slice (some ⟨b, off, none⟩) zs.length cap) zs) (hE : wtsE zs = 0) :
    Calls Try.prog 7 #[.int .i64 many, .slice (some ⟨b, off, none⟩) zs.length cap, .int .i64 i, .int .i64 k] w fun r w' => r = .returned (.bool true) ∧ Below w.heap.size w w' := by
  have HS := Lib.hid (seats_back (seats_ones b off cap zs many hmany w hr hE) (sts_len byOnes zs many))
  obtain ⟨h0, hm, hall⟩ : zs ≠ [] ∧ zs.length ≤ 40 ∧ zs.all wtB = true := by
    rcases wtsE_cases zs with ⟨_, a, b, c, _⟩ | h
    · exact ⟨a, b, c⟩
    · omega
  have HR := Lib.hid hr
  have HSB := Lib.hid (fun t => sts_bd byOnes zs h0 many t)
  have HL := Lib.hid (sts_len byOnes zs many)
  have HLE : Hid (∀ a c, a < zs.length → c < zs.length → 0 < (sts byOnes zs many).getD a 0 → zs.getD c 0 * byOnes ((sts byOnes zs many).getD a 0 - 1) ≤ zs.getD a 0 * byOnes ((sts byOnes zs many).getD c 0)) :=
    fun a c ha hc hs => sts_least (dv := byOnes) (by intro x hx; unfold byOnes; omega) (by intro x y hx hy; unfold byOnes; omega) h0 (fun k => (wt_at hall k).1) many a c ha hc hs
  have HWB := Lib.hid (fun k => wt_at hall k)
  clear hr hE h0 hall
  generalize sts byOnes zs many = ss at HS HSB HL HLE
  by_cases i0 : i < 0
  · go_enter Try.func7, Try.ntmps7
    go_wp2_with (first
      | (go_at_call 12; (with_reducible refine HS.out.mono ?_); rintro e w1 ⟨g, rfl, r1, b1⟩; have R1 := Lib.hid r1; have B1 := Lib.hid b1; clear r1 b1)
      | (go_at_call 15; (with_reducible refine (shareBegun _).mono ?_); rintro e w2 ⟨rfl, b2⟩; have B2 := Lib.hid b2; clear b2))
    go_ret
    exact ⟨rfl, bel B1.out B2.out⟩
  · obtain ⟨a, rfl⟩ : ∃ a : Nat, i = a := ⟨i.toNat, by omega⟩
    by_cases i1 : zs.length ≤ a
    · go_enter Try.func7, Try.ntmps7
      go_wp2_with (first
        | (go_at_call 12; (with_reducible refine HS.out.mono ?_); rintro e w1 ⟨g, rfl, r1, b1⟩; have R1 := Lib.hid r1; have B1 := Lib.hid b1; clear r1 b1)
        | (go_at_call 15; (with_reducible refine (shareBegun _).mono ?_); rintro e w2 ⟨rfl, b2⟩; have B2 := Lib.hid b2; clear b2))
      go_ret
      exact ⟨rfl, bel B1.out B2.out⟩
    · have ia : a < zs.length := by omega
      by_cases k0 : k < 0
      · go_enter Try.func7, Try.ntmps7
        go_wp2_with (first
          | (go_at_call 12; (with_reducible refine HS.out.mono ?_); rintro e w1 ⟨g, rfl, r1, b1⟩; have R1 := Lib.hid r1; have B1 := Lib.hid b1; clear r1 b1)
          | (go_at_call 15; (with_reducible refine (shareBegun _).mono ?_); rintro e w2 ⟨rfl, b2⟩; have B2 := Lib.hid b2; clear b2))
        go_ret
        exact ⟨rfl, bel B1.out B2.out⟩
      · obtain ⟨c, rfl⟩ : ∃ c : Nat, k = c := ⟨k.toNat, by omega⟩
        by_cases k1 : zs.length ≤ c
        · go_enter Try.func7, Try.ntmps7
          go_wp2_with (first
            | (go_at_call 12; (with_reducible refine HS.out.mono ?_); rintro e w1 ⟨g, rfl, r1, b1⟩; have R1 := Lib.hid r1; have B1 := Lib.hid b1; clear r1 b1)
            | (go_at_call 15; (with_reducible refine (shareBegun _).mono ?_); rintro e w2 ⟨rfl, b2⟩; have B2 := Lib.hid b2; clear b2))
          go_ret
          exact ⟨rfl, bel B1.out B2.out⟩
        · have kc : c < zs.length := by omega
          clear i0 i1 k0 k1
          have AT : Hid (∀ w1 g w2, Row w1 g ss → Below w.heap.size w w1 → Below w1.heap.size w1 w2 → w2.cell? ⟨g, a, none⟩ = some (.int .i64 (ss.getD a 0)) ∧ w2.cell? ⟨g, c, none⟩ = some (.int .i64 (ss.getD c 0)) ∧ w2.cell? ⟨b, off + a, none⟩ = some (.int .i64 (zs.getD a 0)) ∧ w2.cell? ⟨b, off + c, none⟩ = some (.int .i64 (zs.getD c 0))) := by
            intro w1 g w2 r1 b1 b2
            have hc : ∀ j, j < zs.length → w.cell? ⟨b, off + j, none⟩ = some (.int .i64 (zs.getD j 0)) := by
              rcases HR.out.cell with ⟨rfl, _⟩ | ⟨_, b', off', cap', e, hc⟩
              · simp at ia
              · injection e with e1 e2 e3
                injection e1 with e1
                injection e1 with e1 e2
                subst e1 e2
                exact hc
            have hw := bel b1 b2
            exact ⟨(r1.on b2).cell (by rw [HL.out]; exact ia), (r1.on b2).cell (by rw [HL.out]; exact kc), (hw.cell (p := ⟨b, off + a, none⟩) (cell_in (hc a ia))).trans (hc a ia), (hw.cell (p := ⟨b, off + c, none⟩) (cell_in (hc c kc))).trans (hc c kc)⟩
          have le := HLE.out a c ia kc
          have s1 := HSB.out a
          have s2 := HSB.out c
          have z1 := HWB.out a
          have z2 := HWB.out c
          generalize ss.getD a 0 = sa at AT le s1
          generalize ss.getD c 0 = sc at AT le s2
          generalize zs.getD a 0 = za at AT le z1
          generalize zs.getD c 0 = zc at AT le z2
          have HM := Lib.hid hmany
          by_cases hs : sa = 0
          · subst hs
            clear le
            go_enter Try.func7, Try.ntmps7
            go_wp2_with (first
              | (go_at_call 12; (with_reducible refine HS.out.mono ?_); rintro e w1 ⟨g, rfl, r1, b1⟩; have R1 := Lib.hid r1; have B1 := Lib.hid b1; clear r1 b1)
              | (go_at_call 15; (with_reducible refine (shareBegun _).mono ?_); rintro e w2 ⟨rfl, b2⟩; obtain ⟨x1, x2, x3, x4⟩ := AT.out w1 g w2 R1.out B1.out b2; have B2 := Lib.hid b2; clear b2))
            go_ret
            exact ⟨rfl, bel B1.out B2.out⟩
          · have sp : 0 < sa := by omega
            have qs : (sa == 0) = false := beq_eq_false_iff_ne.2 hs
            have fin := le sp
            unfold byOnes at fin
            rw [show sa - 1 + 1 = sa by omega] at fin
            have qf := decide_eq_true fin
            have e0 : IntKind.i64.wrap (sc + 1) = sc + 1 := IntWalk.i64_in _ (by omega)
            have e1 : IntKind.i64.wrap (za * (sc + 1)) = za * (sc + 1) := mulw z1.1 z1.2 (by omega) (by omega)
            have e2 : IntKind.i64.wrap (zc * sa) = zc * sa := mulw z2.1 z2.2 (by omega) (by omega)
            have a0 : (0 : Int) ≤ a := by omega
            have c0 : (0 : Int) ≤ c := by omega
            have a1 : (a : Int) < zs.length := by omega
            have c1 : (c : Int) < zs.length := by omega
            clear le hs
            go_enter Try.func7, Try.ntmps7
            go_wp2_with (first
              | (go_at_call 12; (with_reducible refine HS.out.mono ?_); rintro e w1 ⟨g, rfl, r1, b1⟩; have R1 := Lib.hid r1; have B1 := Lib.hid b1; clear r1 b1)
              | (go_at_call 15; (with_reducible refine (shareBegun _).mono ?_); rintro e w2 ⟨rfl, b2⟩; obtain ⟨x1, x2, x3, x4⟩ := AT.out w1 g w2 R1.out B1.out b2; have B2 := Lib.hid b2; clear b2))
            go_quiet (fail)
            go_wp2
            go_ret
            exact ⟨rfl, below_drewN (bel B1.out B2.out) _⟩

theorem shareLeast_walk (many i k : Int) (v : Value) (zs : List Int) (w : World) (hr : Reads w v zs) :
    Calls Try.prog 7 #[.int .i64 many, v, .int .i64 i, .int .i64 k] w fun r w' => r = .returned (.bool true) ∧ Below w.heap.size w w' := by
  rcases wtsE_cases zs with ⟨hE, h0, hm, _⟩ | ⟨h1, h4⟩
  · by_cases hb : 0 ≤ many ∧ many ≤ 500
    · obtain ⟨t, rfl⟩ : ∃ t : Nat, many = t := ⟨many.toNat, by omega⟩
      rcases hr.cell with ⟨rfl, _⟩ | ⟨_, b, off, cap, rfl, hc⟩
      · exact absurd rfl h0
      · exact shareLeast_ok b off cap zs t i k (by omega) w hr hE
    · exact shareLeast_err 3 (by omega) many i k v w (seats_rng v zs many 1 w hr hE (by omega))
  · exact shareLeast_err (wtsE zs) h1 many i k v w (seats_bad v zs many 1 w hr h1 h4)

theorem shareOdds_err (c : Int) (hc : 1 ≤ c) (many i k : Int) (v : Value) (w : World) (S : Calls Try.prog 12 #[.int .i64 many, v, .int .i64 2] w fun e w' => e = .returned (.tuple #[.slice none 0 0, .int .i64 c]) ∧ w = w') :
    Calls Try.prog 10 #[.int .i64 many, v, .int .i64 i, .int .i64 k] w fun r w' => r = .returned (.bool true) ∧ Below w.heap.size w w' := by
  have HS := Lib.hid S
  clear S
  have q : (c == 0) = false := beq_eq_false_iff_ne.2 (by omega)
  go_enter Try.func10, Try.ntmps10
  go_wp2_with (first
    | (go_at_call 12; (with_reducible refine HS.out.mono ?_); rintro e w' ⟨rfl, rfl⟩)
    | (go_at_call 15; (with_reducible refine (shareBegun _).mono ?_); rintro e w2 ⟨rfl, b2⟩))
  go_ret
  exact ⟨rfl, b2⟩

set_option maxRecDepth 100000 in
set_option maxHeartbeats 2000000 in
theorem shareOdds_ok (b off cap : Nat) (zs : List Int) (many : Nat) (i k : Int) (hmany : many ≤ 500) (w : World) (hr : Reads w (.slice (some ⟨b, off, none⟩) zs.length cap) zs) (hE : wtsE zs = 0) :
    Calls Try.prog 10 #[.int .i64 many, .slice (some ⟨b, off, none⟩) zs.length cap, .int .i64 i, .int .i64 k] w fun r w' => r = .returned (.bool true) ∧ Below w.heap.size w w' := by
  have HS := Lib.hid (seats_back (seats_odds b off cap zs many hmany w hr hE) (sts_len byOdds zs many))
  obtain ⟨h0, hm, hall⟩ : zs ≠ [] ∧ zs.length ≤ 40 ∧ zs.all wtB = true := by
    rcases wtsE_cases zs with ⟨_, a, b, c, _⟩ | h
    · exact ⟨a, b, c⟩
    · omega
  have HR := Lib.hid hr
  have HSB := Lib.hid (fun t => sts_bd byOdds zs h0 many t)
  have HL := Lib.hid (sts_len byOdds zs many)
  have HLE : Hid (∀ a c, a < zs.length → c < zs.length → 0 < (sts byOdds zs many).getD a 0 → zs.getD c 0 * byOdds ((sts byOdds zs many).getD a 0 - 1) ≤ zs.getD a 0 * byOdds ((sts byOdds zs many).getD c 0)) :=
    fun a c ha hc hs => sts_least (dv := byOdds) (by intro x hx; unfold byOdds; omega) (by intro x y hx hy; unfold byOdds; omega) h0 (fun k => (wt_at hall k).1) many a c ha hc hs
  have HWB := Lib.hid (fun k => wt_at hall k)
  clear hr hE h0 hall
  generalize sts byOdds zs many = ss at HS HSB HL HLE
  by_cases i0 : i < 0
  · go_enter Try.func10, Try.ntmps10
    go_wp2_with (first
      | (go_at_call 12; (with_reducible refine HS.out.mono ?_); rintro e w1 ⟨g, rfl, r1, b1⟩; have R1 := Lib.hid r1; have B1 := Lib.hid b1; clear r1 b1)
      | (go_at_call 15; (with_reducible refine (shareBegun _).mono ?_); rintro e w2 ⟨rfl, b2⟩; have B2 := Lib.hid b2; clear b2))
    go_ret
    exact ⟨rfl, bel B1.out B2.out⟩
  · obtain ⟨a, rfl⟩ : ∃ a : Nat, i = a := ⟨i.toNat, by omega⟩
    by_cases i1 : zs.length ≤ a
    · go_enter Try.func10, Try.ntmps10
      go_wp2_with (first
        | (go_at_call 12; (with_reducible refine HS.out.mono ?_); rintro e w1 ⟨g, rfl, r1, b1⟩; have R1 := Lib.hid r1; have B1 := Lib.hid b1; clear r1 b1)
        | (go_at_call 15; (with_reducible refine (shareBegun _).mono ?_); rintro e w2 ⟨rfl, b2⟩; have B2 := Lib.hid b2; clear b2))
      go_ret
      exact ⟨rfl, bel B1.out B2.out⟩
    · have ia : a < zs.length := by omega
      by_cases k0 : k < 0
      · go_enter Try.func10, Try.ntmps10
        go_wp2_with (first
          | (go_at_call 12; (with_reducible refine HS.out.mono ?_); rintro e w1 ⟨g, rfl, r1, b1⟩; have R1 := Lib.hid r1; have B1 := Lib.hid b1; clear r1 b1)
          | (go_at_call 15; (with_reducible refine (shareBegun _).mono ?_); rintro e w2 ⟨rfl, b2⟩; have B2 := Lib.hid b2; clear b2))
        go_ret
        exact ⟨rfl, bel B1.out B2.out⟩
      · obtain ⟨c, rfl⟩ : ∃ c : Nat, k = c := ⟨k.toNat, by omega⟩
        by_cases k1 : zs.length ≤ c
        · go_enter Try.func10, Try.ntmps10
          go_wp2_with (first
            | (go_at_call 12; (with_reducible refine HS.out.mono ?_); rintro e w1 ⟨g, rfl, r1, b1⟩; have R1 := Lib.hid r1; have B1 := Lib.hid b1; clear r1 b1)
            | (go_at_call 15; (with_reducible refine (shareBegun _).mono ?_); rintro e w2 ⟨rfl, b2⟩; have B2 := Lib.hid b2; clear b2))
          go_ret
          exact ⟨rfl, bel B1.out B2.out⟩
        · have kc : c < zs.length := by omega
          clear i0 i1 k0 k1
          have AT : Hid (∀ w1 g w2, Row w1 g ss → Below w.heap.size w w1 → Below w1.heap.size w1 w2 → w2.cell? ⟨g, a, none⟩ = some (.int .i64 (ss.getD a 0)) ∧ w2.cell? ⟨g, c, none⟩ = some (.int .i64 (ss.getD c 0)) ∧ w2.cell? ⟨b, off + a, none⟩ = some (.int .i64 (zs.getD a 0)) ∧ w2.cell? ⟨b, off + c, none⟩ = some (.int .i64 (zs.getD c 0))) := by
            intro w1 g w2 r1 b1 b2
            have hc : ∀ j, j < zs.length → w.cell? ⟨b, off + j, none⟩ = some (.int .i64 (zs.getD j 0)) := by
              rcases HR.out.cell with ⟨rfl, _⟩ | ⟨_, b', off', cap', e, hc⟩
              · simp at ia
              · injection e with e1 e2 e3
                injection e1 with e1
                injection e1 with e1 e2
                subst e1 e2
                exact hc
            have hw := bel b1 b2
            exact ⟨(r1.on b2).cell (by rw [HL.out]; exact ia), (r1.on b2).cell (by rw [HL.out]; exact kc), (hw.cell (p := ⟨b, off + a, none⟩) (cell_in (hc a ia))).trans (hc a ia), (hw.cell (p := ⟨b, off + c, none⟩) (cell_in (hc c kc))).trans (hc c kc)⟩
          have le := HLE.out a c ia kc
          have s1 := HSB.out a
          have s2 := HSB.out c
          have z1 := HWB.out a
          have z2 := HWB.out c
          generalize ss.getD a 0 = sa at AT le s1
          generalize ss.getD c 0 = sc at AT le s2
          generalize zs.getD a 0 = za at AT le z1
          generalize zs.getD c 0 = zc at AT le z2
          have HM := Lib.hid hmany
          by_cases hs : sa = 0
          · subst hs
            clear le
            go_enter Try.func10, Try.ntmps10
            go_wp2_with (first
              | (go_at_call 12; (with_reducible refine HS.out.mono ?_); rintro e w1 ⟨g, rfl, r1, b1⟩; have R1 := Lib.hid r1; have B1 := Lib.hid b1; clear r1 b1)
              | (go_at_call 15; (with_reducible refine (shareBegun _).mono ?_); rintro e w2 ⟨rfl, b2⟩; obtain ⟨x1, x2, x3, x4⟩ := AT.out w1 g w2 R1.out B1.out b2; have B2 := Lib.hid b2; clear b2))
            go_ret
            exact ⟨rfl, bel B1.out B2.out⟩
          · have sp : 0 < sa := by omega
            have qs : (sa == 0) = false := beq_eq_false_iff_ne.2 hs
            have fin := le sp
            unfold byOdds at fin
            rw [show 2 * (sa - 1) + 1 = 2 * sa - 1 by omega] at fin
            have qf := decide_eq_true fin
            have e0 : IntKind.i64.wrap (2 * sc) = 2 * sc := IntWalk.i64_in _ (by omega)
            have e3 : IntKind.i64.wrap (2 * sc + 1) = 2 * sc + 1 := IntWalk.i64_in _ (by omega)
            have e4 : IntKind.i64.wrap (2 * sa) = 2 * sa := IntWalk.i64_in _ (by omega)
            have e5 : IntKind.i64.wrap (2 * sa - 1) = 2 * sa - 1 := IntWalk.i64_in _ (by omega)
            have e1 : IntKind.i64.wrap (za * (2 * sc + 1)) = za * (2 * sc + 1) := mulw z1.1 z1.2 (by omega) (by omega)
            have e2 : IntKind.i64.wrap (zc * (2 * sa - 1)) = zc * (2 * sa - 1) := mulw z2.1 z2.2 (by omega) (by omega)
            have a0 : (0 : Int) ≤ a := by omega
            have c0 : (0 : Int) ≤ c := by omega
            have a1 : (a : Int) < zs.length := by omega
            have c1 : (c : Int) < zs.length := by omega
            clear le hs
            go_enter Try.func10, Try.ntmps10
            go_wp2_with (first
              | (go_at_call 12; (with_reducible refine HS.out.mono ?_); rintro e w1 ⟨g, rfl, r1, b1⟩; have R1 := Lib.hid r1; have B1 := Lib.hid b1; clear r1 b1)
              | (go_at_call 15; (with_reducible refine (shareBegun _).mono ?_); rintro e w2 ⟨rfl, b2⟩; obtain ⟨x1, x2, x3, x4⟩ := AT.out w1 g w2 R1.out B1.out b2; have B2 := Lib.hid b2; clear b2))
            go_quiet (fail)
            go_wp2
            go_ret
            exact ⟨rfl, below_drewN (bel B1.out B2.out) _⟩

theorem shareOdds_walk (many i k : Int) (v : Value) (zs : List Int) (w : World) (hr : Reads w v zs) :
    Calls Try.prog 10 #[.int .i64 many, v, .int .i64 i, .int .i64 k] w fun r w' => r = .returned (.bool true) ∧ Below w.heap.size w w' := by
  rcases wtsE_cases zs with ⟨hE, h0, hm, _⟩ | ⟨h1, h4⟩
  · by_cases hb : 0 ≤ many ∧ many ≤ 500
    · obtain ⟨t, rfl⟩ : ∃ t : Nat, many = t := ⟨many.toNat, by omega⟩
      rcases hr.cell with ⟨rfl, _⟩ | ⟨_, b, off, cap, rfl, hc⟩
      · exact absurd rfl h0
      · exact shareOdds_ok b off cap zs t i k (by omega) w hr hE
    · exact shareOdds_err 3 (by omega) many i k v w (seats_rng v zs many 2 w hr hE (by omega))
  · exact shareOdds_err (wtsE zs) h1 many i k v w (seats_bad v zs many 2 w hr h1 h4)

end Go.Proofs.Yteidcplhneiaoab
