/-
  ShareMore: the law answers true.
-/
import Derived.Test.YteooglpipggeoaaShareBegun
import Derived.Test.YteooglpipggeoaaPartsAll
import Derived.WalkSmall
namespace Go.Proofs.Yteooglpipggeoaa
open Go.RowKit Go.Lib
set_option linter.unusedVariables false

/-- the parts, in the words of a law -/
theorem parts_back (b off cap : Nat) (zs : List Int) (T : Int) (hT : 0 ≤ T) (hT' : T ≤ 1152921504606846976) (w : World) (hr : Reads w (.slice (some ⟨b, off, none⟩) zs.length cap) zs) (hE : wtsE zs = 0) :
    Calls Try.prog 15 #[.int .i64 T, .slice (some ⟨b, off, none⟩) zs.length cap] w fun e w' => ∃ g, e = .returned (.tuple #[.slice (some ⟨g, 0, none⟩) zs.length zs.length, .int .i64 0]) ∧ Row w' g (pbs T zs) ∧ Below w.heap.size w w' := by
  refine (parts_full b off cap zs T hT hT' w hr hE).mono ?_
  rintro e w' ⟨g, rfl, _, h1, h2⟩
  rw [pbs_len]
  exact ⟨g, rfl, h1, h2⟩

theorem shareMore_err (c : Int) (hc : 1 ≤ c) (T i k : Int) (v : Value) (zs : List Int) (w : World) (hr : Reads w v zs) (S : Calls Try.prog 15 #[.int .i64 T, v] w fun e w' => e = .returned (.tuple #[.slice none 0 0, .int .i64 c]) ∧ w = w') :
    Calls Try.prog 5 #[.int .i64 T, v, .int .i64 i, .int .i64 k] w fun r w' => r = .returned (.bool true) ∧ Below w.heap.size w w' := by
  have HS := Lib.hid S
  clear S
  have q : (c == 0) = false := beq_eq_false_iff_ne.2 (by omega)
  have q2 : (c != 0) = true := bne_iff_ne.2 (by omega)
  obtain ⟨a, cap, rfl, hm, -⟩ := hr
  go_enter Try.func5, Try.ntmps5
  go_wp2_with (first
    | (go_at_call 15; (with_reducible refine HS.out.mono ?_); rintro e w' ⟨rfl, rfl⟩)
    | (go_at_call 19; (with_reducible refine (shareBegun _).mono ?_); rintro e w2 ⟨rfl, b2⟩))
  go_ret
  exact ⟨rfl, b2⟩

set_option maxRecDepth 100000 in
set_option maxHeartbeats 1000000 in
theorem shareMore_ok (b off cap : Nat) (zs : List Int) (T i k : Int) (hT : 0 ≤ T) (hT' : T ≤ 1152921504606846976) (w : World) (hr : Reads w (.slice (some ⟨b, off, none⟩) zs.length cap) zs) (hE : wtsE zs = 0) :
    Calls Try.prog 5 #[.int .i64 T, .slice (some ⟨b, off, none⟩) zs.length cap, .int .i64 i, .int .i64 k] w fun r w' => r = .returned (.bool true) ∧ Below w.heap.size w w' := by
  have HS := Lib.hid (parts_back b off cap zs T hT hT' w hr hE)
  obtain ⟨h0, hm, hall, _⟩ := wts_ok hE
  have HR := Lib.hid hr
  have HL := Lib.hid (pbs_len T zs)
  have HMO : Hid (∀ i k : Nat, i < zs.length → k < zs.length → zs.getD k 0 ≤ zs.getD i 0 → (pbs T zs).getD k 0 ≤ (pbs T zs).getD i 0 ∨ (zs.getD i 0 = zs.getD k 0 ∧ (pbs T zs).getD i 0 + 1 = (pbs T zs).getD k 0 ∧ k < i)) := fun i k hi hk h => pbs_more hT hE hi hk h
  have HNO : Hid (∀ i : Nat, i < zs.length → zs.getD i 0 = 0 → (pbs T zs).getD i 0 = 0) := fun i hi h => pbs_none hT hE hi h
  have HB : Hid (∀ i : Nat, i < zs.length → 0 ≤ (pbs T zs).getD i 0 ∧ (pbs T zs).getD i 0 ≤ T) := fun i hi => ⟨(pbs_quota hT hE hi).1, (pbs_quota hT hE hi).2.1⟩
  have HWB := Lib.hid (fun k => wt_at hall k)
  clear hr hE h0 hall hT
  generalize pbs T zs = ss at HS HL HMO HNO HB
  by_cases i0 : i < 0
  · skip
    go_enter Try.func5, Try.ntmps5
    go_wp2_with (first
      | (go_at_call 15; (with_reducible refine HS.out.mono ?_); rintro e w1 ⟨g, rfl, r1, b1⟩; have R1 := Lib.hid r1; have B1 := Lib.hid b1; clear r1 b1)
      | (go_at_call 19; (with_reducible refine (shareBegun _).mono ?_); rintro e w2 ⟨rfl, b2⟩; have B2 := Lib.hid b2; clear b2))
    go_ret
    exact ⟨rfl, bel B1.out B2.out⟩
  · obtain ⟨a, rfl⟩ : ∃ a : Nat, i = a := ⟨i.toNat, by omega⟩
    by_cases i1 : zs.length ≤ a
    · skip
      go_enter Try.func5, Try.ntmps5
      go_wp2_with (first
        | (go_at_call 15; (with_reducible refine HS.out.mono ?_); rintro e w1 ⟨g, rfl, r1, b1⟩; have R1 := Lib.hid r1; have B1 := Lib.hid b1; clear r1 b1)
        | (go_at_call 19; (with_reducible refine (shareBegun _).mono ?_); rintro e w2 ⟨rfl, b2⟩; have B2 := Lib.hid b2; clear b2))
      go_ret
      exact ⟨rfl, bel B1.out B2.out⟩
    · have ia : a < zs.length := by omega
      by_cases k0 : k < 0
      · skip
        go_enter Try.func5, Try.ntmps5
        go_wp2_with (first
          | (go_at_call 15; (with_reducible refine HS.out.mono ?_); rintro e w1 ⟨g, rfl, r1, b1⟩; have R1 := Lib.hid r1; have B1 := Lib.hid b1; clear r1 b1)
          | (go_at_call 19; (with_reducible refine (shareBegun _).mono ?_); rintro e w2 ⟨rfl, b2⟩; have B2 := Lib.hid b2; clear b2))
        go_ret
        exact ⟨rfl, bel B1.out B2.out⟩
      · obtain ⟨c, rfl⟩ : ∃ c : Nat, k = c := ⟨k.toNat, by omega⟩
        by_cases k1 : zs.length ≤ c
        · skip
          go_enter Try.func5, Try.ntmps5
          go_wp2_with (first
            | (go_at_call 15; (with_reducible refine HS.out.mono ?_); rintro e w1 ⟨g, rfl, r1, b1⟩; have R1 := Lib.hid r1; have B1 := Lib.hid b1; clear r1 b1)
            | (go_at_call 19; (with_reducible refine (shareBegun _).mono ?_); rintro e w2 ⟨rfl, b2⟩; have B2 := Lib.hid b2; clear b2))
          go_ret
          exact ⟨rfl, bel B1.out B2.out⟩
        · have kc : c < zs.length := by omega
          clear i0 i1 k0 k1
          have AT : Hid (∀ w1 g w2, Row w1 g ss → Below w.heap.size w w1 → Below w1.heap.size w1 w2 → w2.cell? ⟨g, a, none⟩ = some (.int .i64 (ss.getD a 0)) ∧ w2.cell? ⟨g, c, none⟩ = some (.int .i64 (ss.getD c 0)) ∧ w2.cell? ⟨b, off + a, none⟩ = some (.int .i64 (zs.getD a 0)) ∧ w2.cell? ⟨b, off + c, none⟩ = some (.int .i64 (zs.getD c 0))) := by
            intro w1 g w2 r1 b1 b2
            have hc : ∀ j, j < zs.length → w.cell? ⟨b, off + j, none⟩ = some (.int .i64 (zs.getD j 0)) := by
              rcases HR.out.cell with ⟨rfl, _⟩ | ⟨_, b', off', cap', e, hc⟩
              · simp at ia
              · injection e with e1 e2 e3
                injection e1 with e1
                injection e1 with e1 e2
                subst e1 e2
                exact hc
            have hw := bel b1 b2
            exact ⟨(r1.on b2).cell (by rw [HL.out]; exact ia), (r1.on b2).cell (by rw [HL.out]; exact kc), (hw.cell (p := ⟨b, off + a, none⟩) (cell_in (hc a ia))).trans (hc a ia), (hw.cell (p := ⟨b, off + c, none⟩) (cell_in (hc c kc))).trans (hc c kc)⟩
          have mo := HMO.out a c ia kc
          have no := HNO.out a ia
          have sb := HB.out a ia
          have z1 := HWB.out a
          have z2 := HWB.out c
          generalize ss.getD a 0 = sa at AT mo no sb
          generalize ss.getD c 0 = sc at AT mo
          generalize zs.getD a 0 = za at AT mo no z1
          generalize zs.getD c 0 = zc at AT mo z2
          have e0 : IntKind.i64.wrap (sa + 1) = sa + 1 := IntWalk.i64_in _ (by omega)
          have a0 : (0 : Int) ≤ a := by omega
          have c0 : (0 : Int) ≤ c := by omega
          have a1 : (a : Int) < zs.length := by omega
          have c1 : (c : Int) < zs.length := by omega
          have HZ1 := Lib.hid z1
          have HZ2 := Lib.hid z2
          have HSB := Lib.hid sb
          have HMO2 := Lib.hid mo
          have HNO2 := Lib.hid no
          clear z1 z2 sb mo no hT' HMO HNO HB
          by_cases p0 : 0 < za
          · skip
            by_cases q0 : za < zc
            · skip
              have p1 : 0 < za := by omega
              have d0 : decide (0 < za) = true := decide_eq_true p1
              have d1 : decide (za < zc) = true := by simp <;> omega
              go_enter Try.func5, Try.ntmps5
              go_wp2_with (first
                | (go_at_call 15; (with_reducible refine HS.out.mono ?_); rintro e w1 ⟨g, rfl, r1, b1⟩; have R1 := Lib.hid r1; have B1 := Lib.hid b1; clear r1 b1)
                | (go_at_call 19; (with_reducible refine (shareBegun _).mono ?_); rintro e w2 ⟨rfl, b2⟩; obtain ⟨x1, x2, x3, x4⟩ := AT.out w1 g w2 R1.out B1.out b2; have B2 := Lib.hid b2; clear b2))
              go_quiet (fail)
              go_wp2
              go_ret
              exact ⟨rfl, below_drewN (bel B1.out B2.out) _⟩
            · by_cases q1 : sc ≤ sa
              · skip
                have p1 : 0 < za := by omega
                have d0 : decide (0 < za) = true := decide_eq_true p1
                have d1 : decide (za < zc) = false := by simp <;> omega
                have d2 : decide (sc ≤ sa) = true := by simp <;> omega
                go_enter Try.func5, Try.ntmps5
                go_wp2_with (first
                  | (go_at_call 15; (with_reducible refine HS.out.mono ?_); rintro e w1 ⟨g, rfl, r1, b1⟩; have R1 := Lib.hid r1; have B1 := Lib.hid b1; clear r1 b1)
                  | (go_at_call 19; (with_reducible refine (shareBegun _).mono ?_); rintro e w2 ⟨rfl, b2⟩; obtain ⟨x1, x2, x3, x4⟩ := AT.out w1 g w2 R1.out B1.out b2; have B2 := Lib.hid b2; clear b2))
                go_quiet (fail)
                go_wp2
                go_ret
                exact ⟨rfl, below_drewN (bel B1.out B2.out) _⟩
              · have hh : za = zc ∧ sa + 1 = sc ∧ c < a := (HMO2.out (by omega)).resolve_left q1
                obtain ⟨rfl, rfl, hca⟩ := hh
                have hcz : (c : Int) < (a : Int) := by omega
                have p1 : 0 < za := by omega
                have d0 : decide (0 < za) = true := decide_eq_true p1
                have d1 : decide (za < za) = false := by simp <;> omega
                have d2 : decide ((sa + 1) ≤ sa) = false := by simp <;> omega
                have d3 : decide ((c : Int) < (a : Int)) = true := decide_eq_true hcz
                go_enter Try.func5, Try.ntmps5
                go_wp2_with (first
                  | (go_at_call 15; (with_reducible refine HS.out.mono ?_); rintro e w1 ⟨g, rfl, r1, b1⟩; have R1 := Lib.hid r1; have B1 := Lib.hid b1; clear r1 b1)
                  | (go_at_call 19; (with_reducible refine (shareBegun _).mono ?_); rintro e w2 ⟨rfl, b2⟩; obtain ⟨x1, x2, x3, x4⟩ := AT.out w1 g w2 R1.out B1.out b2; have B2 := Lib.hid b2; clear b2))
                go_quiet (fail)
                go_wp2
                go_ret
                exact ⟨rfl, below_drewN (bel B1.out B2.out) _⟩
          · skip
            by_cases q0 : za < zc
            · skip
              obtain rfl : za = 0 := by have := HZ1.out; omega
              obtain rfl : sa = 0 := HNO2.out rfl
              have d1 : decide ((0 : Int) < zc) = true := by simp <;> omega
              go_enter Try.func5, Try.ntmps5
              go_wp2_with (first
                | (go_at_call 15; (with_reducible refine HS.out.mono ?_); rintro e w1 ⟨g, rfl, r1, b1⟩; have R1 := Lib.hid r1; have B1 := Lib.hid b1; clear r1 b1)
                | (go_at_call 19; (with_reducible refine (shareBegun _).mono ?_); rintro e w2 ⟨rfl, b2⟩; obtain ⟨x1, x2, x3, x4⟩ := AT.out w1 g w2 R1.out B1.out b2; have B2 := Lib.hid b2; clear b2))
              go_quiet (fail)
              go_wp2
              go_ret
              exact ⟨rfl, below_drewN (bel B1.out B2.out) _⟩
            · by_cases q1 : sc ≤ sa
              · skip
                obtain rfl : za = 0 := by have := HZ1.out; omega
                obtain rfl : sa = 0 := HNO2.out rfl
                have d1 : decide ((0 : Int) < zc) = false := by simp <;> omega
                have d2 : decide (sc ≤ (0 : Int)) = true := by simp <;> omega
                go_enter Try.func5, Try.ntmps5
                go_wp2_with (first
                  | (go_at_call 15; (with_reducible refine HS.out.mono ?_); rintro e w1 ⟨g, rfl, r1, b1⟩; have R1 := Lib.hid r1; have B1 := Lib.hid b1; clear r1 b1)
                  | (go_at_call 19; (with_reducible refine (shareBegun _).mono ?_); rintro e w2 ⟨rfl, b2⟩; obtain ⟨x1, x2, x3, x4⟩ := AT.out w1 g w2 R1.out B1.out b2; have B2 := Lib.hid b2; clear b2))
                go_quiet (fail)
                go_wp2
                go_ret
                exact ⟨rfl, below_drewN (bel B1.out B2.out) _⟩
              · have hh : za = zc ∧ sa + 1 = sc ∧ c < a := (HMO2.out (by omega)).resolve_left q1
                obtain ⟨rfl, rfl, hca⟩ := hh
                have hcz : (c : Int) < (a : Int) := by omega
                obtain rfl : za = 0 := by have := HZ1.out; omega
                obtain rfl : sa = 0 := HNO2.out rfl
                have d1 : decide ((0 : Int) < (0 : Int)) = false := by simp <;> omega
                have d2 : decide (((0 : Int) + 1) ≤ (0 : Int)) = false := by simp <;> omega
                have d3 : decide ((c : Int) < (a : Int)) = true := decide_eq_true hcz
                go_enter Try.func5, Try.ntmps5
                go_wp2_with (first
                  | (go_at_call 15; (with_reducible refine HS.out.mono ?_); rintro e w1 ⟨g, rfl, r1, b1⟩; have R1 := Lib.hid r1; have B1 := Lib.hid b1; clear r1 b1)
                  | (go_at_call 19; (with_reducible refine (shareBegun _).mono ?_); rintro e w2 ⟨rfl, b2⟩; obtain ⟨x1, x2, x3, x4⟩ := AT.out w1 g w2 R1.out B1.out b2; have B2 := Lib.hid b2; clear b2))
                go_quiet (fail)
                go_wp2
                go_ret
                exact ⟨rfl, below_drewN (bel B1.out B2.out) _⟩

theorem shareMore_walk (T i k : Int) (v : Value) (zs : List Int) (w : World) (hr : Reads w v zs) :
    Calls Try.prog 5 #[.int .i64 T, v, .int .i64 i, .int .i64 k] w fun r w' => r = .returned (.bool true) ∧ Below w.heap.size w w' := by
  rcases wtsE_cases zs with ⟨hE, h0, hm, _⟩ | ⟨h1, h4⟩
  · by_cases hb : 0 ≤ T ∧ T ≤ 1152921504606846976
    · rcases hr.cell with ⟨rfl, _⟩ | ⟨_, b, off, cap, rfl, hc⟩
      · exact absurd rfl h0
      · exact shareMore_ok b off cap zs T i k hb.1 hb.2 w hr hE
    · exact shareMore_err 3 (by omega) T i k v zs w hr (parts_rng v zs T w hr hE (by omega))
  · exact shareMore_err (wtsE zs) h1 T i k v zs w hr (parts_bad v zs T w hr h1 h4)

theorem shareMore_plain (T : Int) (v : Value) (i k : Int) (zs : List Int) (w : World) (hr : Reads w v zs) :
    Calls Try.prog 5 #[.int .i64 T, v, .int .i64 i, .int .i64 k] w fun r w' => r = .returned (.bool true) ∧ Below w.heap.size w w' := shareMore_walk T i k v zs w hr

end Go.Proofs.Yteooglpipggeoaa
