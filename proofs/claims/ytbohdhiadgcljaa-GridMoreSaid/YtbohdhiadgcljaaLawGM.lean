/-
  Grid: with more money no less is done: the ways that end early.
-/
import Derived.Test.YtbohdhiadgcljaaGridI
import Derived.Test.YtbohdhiadgcljaaGridJ
namespace Go.Proofs.Ytbohdhiadgcljaa
open Go.RowKit
set_option linter.unusedVariables false

theorem more_bad (v vl : Value) (has : List Int) (ps : List (Int × Int × Int)) (p more : Int) (w : World) (hr : Reads w v has) (hp : ReadsP w vl ps) (hg : gridE has ps ≠ 0) :
    Calls Try.prog 6 #[v, vl, .int .i64 p, .int .i64 more] w fun e w' => e = .returned (.bool true) ∧ Kpt w w' := by
  have SB := Lib.hid (solve_bad v vl has ps w hr hp hg)
  have q : (gridE has ps != 0) = true := bne_iff_ne.2 hg
  clear hr hp
  generalize gridE has ps = E at *
  go_enter Try.func6, Try.ntmps6
  go_wp2_with (first
    | (go_at_call 15; (with_reducible refine SB.out.mono ?_); rintro e w1 ⟨rfl, k1⟩; have K1 := Lib.hid k1; clear k1)
    | (go_at_call 21; (with_reducible refine (gridBegun _).mono ?_); rintro e w2 ⟨rfl, k2⟩; have K2 := Lib.hid (ktr K1.out k2); clear k2))
  go_ret
  exact ⟨rfl, K2.out⟩

/-- a settlement that goes, its answer a list that is known by what it keeps -/
theorem solve_ok (v vl : Value) (has : List Int) (ps : List (Int × Int × Int)) (I : List Nat → Prop) (w : World) (hr : Reads w v has) (hp : ReadsP w vl ps) (hg : gridE has ps = 0) (h0 : I (List.range ps.length)) (hI : keptS has ps I) :
    Calls Try.prog 15 #[v, vl] w fun e w' => ∃ (ds : List Nat) (g m cap : Nat), e = .returned (.tuple #[.slice (some ⟨g, 0, none⟩) m cap, .int .i64 0]) ∧ Hid (m = ds.length ∧ I ds ∧ okD ps.length ds ∧ ∀ q, q < 31 → ¬ (settleF ps has ds).getD q 0 < 0) ∧ Hid (w.heap.size ≤ g ∧ OwnI w' g (ints ds)) ∧ Hid (Kpt w w') := by
  refine (solve_run v vl has ps I w hr hp hg h0 hI).mono ?_
  rintro e w' ⟨⟨ds, h1, h2, h3, g, cap, rfl, _, hgw, ho⟩, hk⟩
  exact ⟨ds, g, _, cap, rfl, ⟨rfl, h1, h2, h3⟩, ⟨hgw, ho⟩, hk⟩

theorem more_out (v vl : Value) (has : List Int) (ps : List (Int × Int × Int)) (p more : Int) (w : World) (hr : Reads w v has) (hp : ReadsP w vl ps) (hg : gridE has ps = 0) (hx : p < 0 ∨ 31 ≤ p ∨ more < 0 ∨ 1152921504606846976 < more) :
    Calls Try.prog 6 #[v, vl, .int .i64 p, .int .i64 more] w fun e w' => e = .returned (.bool true) ∧ Kpt w w' := by
  have SB := Lib.hid (solve_ok v vl has ps (fun _ => True) w hr hp hg trivial (fun _ _ _ _ _ _ _ _ _ _ => trivial))
  obtain ⟨h31, -⟩ := grid_0 hg
  obtain ⟨a, cap, rfl, -⟩ := id hr
  rw [h31] at SB ⊢
  clear hr hp hg h31
  go_enter Try.func6, Try.ntmps6
  by_cases x1 : p < 0
  · clear hx
    go_wp2_with (first
      | (go_at_call 15; (with_reducible refine SB.out.mono ?_); rintro e w1 ⟨ds, g, m, cap1, rfl, _, _, k1⟩; have K1 := Lib.hid k1.out; clear k1)
      | (go_at_call 21; (with_reducible refine (gridBegun _).mono ?_); rintro e w2 ⟨rfl, k2⟩; have K2 := Lib.hid (ktr K1.out k2); clear k2))
    go_ret
    exact ⟨rfl, K2.out⟩
  have y1 : decide (p < 0) = false := decide_eq_false x1
  by_cases x2 : 31 ≤ p
  · clear hx
    go_wp2_with (first
      | (go_at_call 15; (with_reducible refine SB.out.mono ?_); rintro e w1 ⟨ds, g, m, cap1, rfl, _, _, k1⟩; have K1 := Lib.hid k1.out; clear k1)
      | (go_at_call 21; (with_reducible refine (gridBegun _).mono ?_); rintro e w2 ⟨rfl, k2⟩; have K2 := Lib.hid (ktr K1.out k2); clear k2))
    go_ret
    exact ⟨rfl, K2.out⟩
  have y2 : decide (31 ≤ p) = false := decide_eq_false x2
  by_cases x3 : more < 0
  · clear hx
    go_wp2_with (first
      | (go_at_call 15; (with_reducible refine SB.out.mono ?_); rintro e w1 ⟨ds, g, m, cap1, rfl, _, _, k1⟩; have K1 := Lib.hid k1.out; clear k1)
      | (go_at_call 21; (with_reducible refine (gridBegun _).mono ?_); rintro e w2 ⟨rfl, k2⟩; have K2 := Lib.hid (ktr K1.out k2); clear k2))
    go_ret
    exact ⟨rfl, K2.out⟩
  have y3 : decide (more < 0) = false := decide_eq_false x3
  have x4 : 1152921504606846976 < more := by omega
  clear hx
  go_wp2_with (first
    | (go_at_call 15; (with_reducible refine SB.out.mono ?_); rintro e w1 ⟨ds, g, m, cap1, rfl, _, _, k1⟩; have K1 := Lib.hid k1.out; clear k1)
    | (go_at_call 21; (with_reducible refine (gridBegun _).mono ?_); rintro e w2 ⟨rfl, k2⟩; have K2 := Lib.hid (ktr K1.out k2); clear k2))
  go_ret
  exact ⟨rfl, K2.out⟩

end Go.Proofs.Ytbohdhiadgcljaa
