/-
  What SameInts of the reference does, of two lists that read alike.
-/
import Derived.Test.YtmoanndonfmihaaBase
import Derived.Test.YtmoanndonfmihaaKept
import Derived.Deep.QuietTactic
import Derived.BigQuiet
namespace Go.Proofs.Ytmoanndonfmihaa
open Go.RowKit
set_option linter.unusedVariables false

set_option maxRecDepth 100000 in
set_option maxHeartbeats 1000000 in
theorem sameI_some (b off cap c off' cap' : Nat) (xs : List Int) (w : World) (hm : xs.length ≤ maxLen) (h1 : ∀ j, j < xs.length → w.cell? ⟨b, off + j, none⟩ = some (.int .i64 (xs.getD j 0))) (h2 : ∀ j, j < xs.length → w.cell? ⟨c, off' + j, none⟩ = some (.int .i64 (xs.getD j 0))) :
    Calls Try.prog 63 #[.slice (some ⟨b, off, none⟩) xs.length cap, .slice (some ⟨c, off', none⟩) xs.length cap'] w fun e w' => e = .returned (.bool true) ∧ Kpt w w' := by
  unfold maxLen at hm
  have H1 := Lib.hid h1
  have H2 := Lib.hid h2
  clear h1 h2
  go_enter Try.func63, Try.ntmps63
  go_wp2
  go_loopw [5] (fun i wr => ∃ k : Nat, k ≤ xs.length ∧ i = .int .i64 k ∧ Hid (Kpt w wr)) (fun i _ => xs.length - (intOf i).toNat)
  case atStart => exact ⟨0, Nat.zero_le _, rfl, Kpt.refl _⟩
  case round =>
    obtain ⟨k, hk, rfl, HG⟩ := hrel
    by_cases hlt : k < xs.length
    · have c1 := HG.out.cell (H1.out k hlt)
      have c2 := HG.out.cell (H2.out k hlt)
      generalize xs.getD k 0 = z at c1 c2
      have k0 : (0 : Int) ≤ k := by omega
      have k1 : (k : Int) < xs.length := by omega
      go_wp2
      go_quiet (fail)
      go_wp2
      go_roundw
      case rel => exact ⟨k + 1, by omega, by go_num, by unfold Hid; exact HG.out.drewN _⟩
      case measure => simp [intOf]; omega
    · go_wp2
      go_ret
      exact ⟨rfl, HG.out⟩
theorem sameI_none (a b : Option Addr) (cap cap' : Nat) (w : World) :
    Calls Try.prog 63 #[.slice a 0 cap, .slice b 0 cap'] w fun e w' => e = .returned (.bool true) ∧ Kpt w w' := by
  go_enter Try.func63, Try.ntmps63
  go_wp2
  go_loop [5] (fun i => i = .int .i64 0) (fun _ => 0)
  case atStart => exact rfl
  case round =>
    obtain rfl := hrel
    go_wp2
    go_ret
    exact ⟨rfl, Kpt.refl _⟩
theorem sameI_run (u v : Value) (xs : List Int) (w : World) (h1 : Reads w u xs) (h2 : Reads w v xs) :
    Calls Try.prog 63 #[u, v] w fun e w' => e = .returned (.bool true) ∧ Kpt w w' := by
  have hm := h1.len
  rcases h1.cell with ⟨rfl, a, cap, rfl⟩ | ⟨h0, b, off, cap, rfl, hc⟩
  · rcases h2.cell with ⟨_, a', cap', rfl⟩ | ⟨h0, _⟩
    · exact sameI_none a a' cap cap' w
    · simp at h0
  · rcases h2.cell with ⟨rfl, _⟩ | ⟨_, b', off', cap', rfl, hc'⟩
    · simp at h0
    · exact sameI_some b off cap b' off' cap' xs w hm hc hc'

end Go.Proofs.Ytmoanndonfmihaa
