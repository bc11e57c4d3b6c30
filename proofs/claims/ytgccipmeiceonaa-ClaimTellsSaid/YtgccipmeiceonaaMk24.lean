/-
  Merged: SameD, SameP.
-/
import Derived.Test.YtgccipmeiceonaaTrip
import Derived.Test.YtgccipmeiceonaaKept
import Derived.Deep.QuietTactic
import Derived.BigQuiet
-- SameD
namespace Go.Proofs.Ytgccipmeiceonaa
open Go.RowKit
set_option linter.unusedVariables false

theorem neqD (a b c d e f : Int) (w : World) : (binOp .neq 80 (.agg #[.int .i64 a, .int .i64 b, .int .i64 c]) (.agg #[.int .i64 d, .int .i64 e, .int .i64 f])).run Try.prog w = .ok (.bool (!decide ((a, b, c) = (d, e, f)))) w := by
  have u3 := Try.underlying3
  have hS : Try.prog.underlying 80 = some (.struct (Try.prog.fieldsOf 80)) := by kernel_rfl
  have hp : Try.prog.stoodInHeld 80 = false := by kernel_rfl
  have a3 : ∀ w, (isAgg 3).run Try.prog w = .ok false w := fun w => by kernel_rfl
  have h : ∀ w, (Op.equalIn (9999 + 1) 80 (.agg #[.int .i64 a, .int .i64 b, .int .i64 c]) (.agg #[.int .i64 d, .int .i64 e, .int .i64 f])).run Try.prog w = .ok (decide ((a, b, c) = (d, e, f))) w := fun w => by
    rw [run_equalIn_agg w 9999 80 _ _ hS hp]
    simp only [Program.fieldsOf, Try.underlying80]
    go_simp
    by_cases h1 : a = d <;> by_cases h2 : b = e <;> by_cases h3 : c = f <;> simp [h1, h2, h3]
  simp only [binOp, Op.equal, Op.maxDepth, Sem.run_bind]
  rw [show (10000 : Nat) = 9999 + 1 from rfl, h]
  simp

theorem sameD_len (a1 a2 : Option Addr) (n1 n2 c1 c2 : Nat) (w : World) (h : n1 ≠ n2) : Calls Try.prog 14 #[.slice a1 n1 c1, .slice a2 n2 c2] w fun e w' => e = .returned (.bool false) ∧ Kpt w w' := by
  have q : ((n1 : Int) != (n2 : Int)) = true := bne_iff_ne.2 (by omega)
  go_enter Try.func14, Try.ntmps14
  go_wp2
  go_ret
  exact ⟨rfl, Kpt.refl _⟩

theorem sameD_none (a1 a2 : Option Addr) (c1 c2 : Nat) (w : World) : Calls Try.prog 14 #[.slice a1 0 c1, .slice a2 0 c2] w fun e w' => e = .returned (.bool true) ∧ Kpt w w' := by
  go_enter Try.func14, Try.ntmps14
  go_wp2
  go_loop [5] (fun i => i = .int .i64 0) (fun _ => 0)
  case atStart => exact rfl
  case round =>
    obtain rfl := hrel
    go_wp2
    go_ret
    exact ⟨rfl, Kpt.refl _⟩

set_option maxHeartbeats 1000000 in
theorem sameD_some (b1 o1 c1 b2 o2 c2 : Nat) (ps : List (Int × Int × Int)) (w : World) (hm : ps.length ≤ maxLen) (h1 : ∀ j, j < ps.length → PtAt w b1 (o1 + j * 3) (ps.getD j default)) (h2 : ∀ j, j < ps.length → PtAt w b2 (o2 + j * 3) (ps.getD j default)) :
    Calls Try.prog 14 #[.slice (some ⟨b1, o1, none⟩) ps.length c1, .slice (some ⟨b2, o2, none⟩) ps.length c2] w fun e w' => e = .returned (.bool true) ∧ Kpt w w' := by
  unfold maxLen at hm
  have H1 := Lib.hid h1; have H2 := Lib.hid h2
  clear h1 h2
  go_enter Try.func14, Try.ntmps14
  go_wp2
  go_loopw [5] (fun i wr => ∃ k : Nat, k ≤ ps.length ∧ i = .int .i64 k ∧ Hid (Kpt w wr)) (fun i _ => ps.length - (intOf i).toNat)
  case atStart => exact ⟨0, Nat.zero_le _, rfl, Kpt.refl _⟩
  case round =>
    obtain ⟨k, hk, rfl, HK⟩ := hrel
    by_cases hlt : k < ps.length
    · obtain ⟨c0, c1, c2⟩ := (H1.out k hlt).kpt HK.out
      obtain ⟨d0, d1, d2⟩ := (H2.out k hlt).kpt HK.out
      generalize ps.getD k default = p at c0 c1 c2 d0 d1 d2
      obtain ⟨A, U, N⟩ := p
      simp only at c0 c1 c2 d0 d1 d2
      have qn := neqD A U N A U N
      rw [decide_eq_true rfl, Bool.not_true] at qn
      have b0 : (0 : Int) ≤ (k : Int) := by omega
      have b1 : (k : Int) < (ps.length : Int) := by omega
      go_wp2
      go_quiet (fail)
      go_wp2
      go_roundw
      case rel => exact ⟨k + 1, by omega, by go_num, Kpt.drewN HK.out _⟩
      case measure => simp [intOf]; omega
    · go_wp2
      go_ret
      exact ⟨rfl, HK.out⟩

theorem sameD_any (v u : Value) (ps : List (Int × Int × Int)) (w : World) (h1 : ReadsP w v ps) (h2 : ReadsP w u ps) : Calls Try.prog 14 #[v, u] w fun e w' => e = .returned (.bool true) ∧ Kpt w w' := by
  have hm := h1.len
  rcases h1.cell with ⟨rfl, a, c, rfl⟩ | ⟨h0, b1, o1, c1, rfl, k1⟩
  · rcases h2.cell with ⟨_, a', c', rfl⟩ | ⟨h0, _⟩
    · exact sameD_none a a' c c' w
    · simp at h0
  · rcases h2.cell with ⟨e, _⟩ | ⟨_, b2, o2, c2, rfl, k2⟩
    · rw [e] at h0; simp at h0
    · exact sameD_some b1 o1 c1 b2 o2 c2 ps w hm k1 k2

end Go.Proofs.Ytgccipmeiceonaa

-- SameP
namespace Go.Proofs.Ytgccipmeiceonaa
open Go.RowKit
set_option linter.unusedVariables false

theorem neqP (a b c d e f : Int) (w : World) : (binOp .neq 94 (.agg #[.int .i64 a, .int .i64 b, .int .i64 c]) (.agg #[.int .i64 d, .int .i64 e, .int .i64 f])).run Try.prog w = .ok (.bool (!decide ((a, b, c) = (d, e, f)))) w := by
  have u3 := Try.underlying3
  have hS : Try.prog.underlying 94 = some (.struct (Try.prog.fieldsOf 94)) := by kernel_rfl
  have hp : Try.prog.stoodInHeld 94 = false := by kernel_rfl
  have a3 : ∀ w, (isAgg 3).run Try.prog w = .ok false w := fun w => by kernel_rfl
  have h : ∀ w, (Op.equalIn (9999 + 1) 94 (.agg #[.int .i64 a, .int .i64 b, .int .i64 c]) (.agg #[.int .i64 d, .int .i64 e, .int .i64 f])).run Try.prog w = .ok (decide ((a, b, c) = (d, e, f))) w := fun w => by
    rw [run_equalIn_agg w 9999 94 _ _ hS hp]
    simp only [Program.fieldsOf, Try.underlying94]
    go_simp
    by_cases h1 : a = d <;> by_cases h2 : b = e <;> by_cases h3 : c = f <;> simp [h1, h2, h3]
  simp only [binOp, Op.equal, Op.maxDepth, Sem.run_bind]
  rw [show (10000 : Nat) = 9999 + 1 from rfl, h]
  simp

theorem sameP_len (a1 a2 : Option Addr) (n1 n2 c1 c2 : Nat) (w : World) (h : n1 ≠ n2) : Calls Try.prog 24 #[.slice a1 n1 c1, .slice a2 n2 c2] w fun e w' => e = .returned (.bool false) ∧ Kpt w w' := by
  have q : ((n1 : Int) != (n2 : Int)) = true := bne_iff_ne.2 (by omega)
  go_enter Try.func24, Try.ntmps24
  go_wp2
  go_ret
  exact ⟨rfl, Kpt.refl _⟩

theorem sameP_none (a1 a2 : Option Addr) (c1 c2 : Nat) (w : World) : Calls Try.prog 24 #[.slice a1 0 c1, .slice a2 0 c2] w fun e w' => e = .returned (.bool true) ∧ Kpt w w' := by
  go_enter Try.func24, Try.ntmps24
  go_wp2
  go_loop [5] (fun i => i = .int .i64 0) (fun _ => 0)
  case atStart => exact rfl
  case round =>
    obtain rfl := hrel
    go_wp2
    go_ret
    exact ⟨rfl, Kpt.refl _⟩

set_option maxHeartbeats 1000000 in
theorem sameP_some (b1 o1 c1 b2 o2 c2 : Nat) (ps : List (Int × Int × Int)) (w : World) (hm : ps.length ≤ maxLen) (h1 : ∀ j, j < ps.length → PtAt w b1 (o1 + j * 3) (ps.getD j default)) (h2 : ∀ j, j < ps.length → PtAt w b2 (o2 + j * 3) (ps.getD j default)) :
    Calls Try.prog 24 #[.slice (some ⟨b1, o1, none⟩) ps.length c1, .slice (some ⟨b2, o2, none⟩) ps.length c2] w fun e w' => e = .returned (.bool true) ∧ Kpt w w' := by
  unfold maxLen at hm
  have H1 := Lib.hid h1; have H2 := Lib.hid h2
  clear h1 h2
  go_enter Try.func24, Try.ntmps24
  go_wp2
  go_loopw [5] (fun i wr => ∃ k : Nat, k ≤ ps.length ∧ i = .int .i64 k ∧ Hid (Kpt w wr)) (fun i _ => ps.length - (intOf i).toNat)
  case atStart => exact ⟨0, Nat.zero_le _, rfl, Kpt.refl _⟩
  case round =>
    obtain ⟨k, hk, rfl, HK⟩ := hrel
    by_cases hlt : k < ps.length
    · obtain ⟨c0, c1, c2⟩ := (H1.out k hlt).kpt HK.out
      obtain ⟨d0, d1, d2⟩ := (H2.out k hlt).kpt HK.out
      generalize ps.getD k default = p at c0 c1 c2 d0 d1 d2
      obtain ⟨A, U, N⟩ := p
      simp only at c0 c1 c2 d0 d1 d2
      have qn := neqP A U N A U N
      rw [decide_eq_true rfl, Bool.not_true] at qn
      have b0 : (0 : Int) ≤ (k : Int) := by omega
      have b1 : (k : Int) < (ps.length : Int) := by omega
      go_wp2
      go_quiet (fail)
      go_wp2
      go_roundw
      case rel => exact ⟨k + 1, by omega, by go_num, Kpt.drewN HK.out _⟩
      case measure => simp [intOf]; omega
    · go_wp2
      go_ret
      exact ⟨rfl, HK.out⟩

theorem sameP_any (v u : Value) (ps : List (Int × Int × Int)) (w : World) (h1 : ReadsP w v ps) (h2 : ReadsP w u ps) : Calls Try.prog 24 #[v, u] w fun e w' => e = .returned (.bool true) ∧ Kpt w w' := by
  have hm := h1.len
  rcases h1.cell with ⟨rfl, a, c, rfl⟩ | ⟨h0, b1, o1, c1, rfl, k1⟩
  · rcases h2.cell with ⟨_, a', c', rfl⟩ | ⟨h0, _⟩
    · exact sameP_none a a' c c' w
    · simp at h0
  · rcases h2.cell with ⟨e, _⟩ | ⟨_, b2, o2, c2, rfl, k2⟩
    · rw [e] at h0; simp at h0
    · exact sameP_some b1 o1 c1 b2 o2 c2 ps w hm k1 k2

end Go.Proofs.Ytgccipmeiceonaa
