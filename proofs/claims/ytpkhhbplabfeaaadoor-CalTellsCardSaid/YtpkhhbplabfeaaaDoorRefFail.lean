/-
  What between, FailOpen and FailCheck of the reference do.
-/
import Derived.Test.YtpkhhbplabfeaaaDoorFailS
namespace Go.Proofs.YtpkhhbplabfeaaaDoor
open Go.RowKit
set_option linter.unusedVariables false

theorem rbt_any (n l h : Int) (B : Bool) (hB : btw l h n = B) (w : World) :
    Calls Tryd.prog 25 #[.int .i64 n, .int .i64 l, .int .i64 h] w fun e w' => e = .returned (.bool B) ∧ w = w' := by
  cases B with
  | true =>
    obtain ⟨h1, h2⟩ := btw_t hB
    clear hB
    go_enter Tryd.func25, Tryd.ntmps25
    go_wp2
    go_ret
    exact ⟨rfl, rfl⟩
  | false =>
    have hB := btw_f hB
    by_cases h2 : n < l
    · clear hB
      go_enter Tryd.func25, Tryd.ntmps25
      go_wp2
      go_ret
      exact ⟨rfl, rfl⟩
    · have h3 : decide (n ≤ h) = false := decide_eq_false (by omega)
      have h4 : decide (l ≤ n) = true := decide_eq_true (by omega)
      have h5 : ¬ n ≤ h := by omega
      have h6 : l ≤ n := by omega
      clear hB h2
      go_enter Tryd.func25, Tryd.ntmps25
      go_wp2
      go_ret
      exact ⟨rfl, rfl⟩
end Go.Proofs.YtpkhhbplabfeaaaDoor
