/-
  Merged: SameF.
-/
import Derived.Test.YtgccipmeiceonaaMk11
import Derived.Deep.QuietTactic
import Derived.BigQuiet
-- SameF
namespace Go.Proofs.Ytgccipmeiceonaa
open Go.RowKit
set_option linter.unusedVariables false

theorem neqF (i f t c p d u x b y : Int) (w : World) : (binOp .neq 38 (.agg #[.int .i64 i, .int .i64 f, .int .i64 t, .int .i64 c, .int .i64 p, .int .i64 d, .int .i64 u, .int .i64 x, .int .i64 b, .int .i64 y]) (.agg #[.int .i64 i, .int .i64 f, .int .i64 t, .int .i64 c, .int .i64 p, .int .i64 d, .int .i64 u, .int .i64 x, .int .i64 b, .int .i64 y])).run Try.prog w = .ok (.bool false) w := by
  have u3 := Try.underlying3
  have hS : Try.prog.underlying 38 = some (.struct (Try.prog.fieldsOf 38)) := by kernel_rfl
  have hp : Try.prog.stoodInHeld 38 = false := by kernel_rfl
  have a3 : ∀ w, (isAgg 3).run Try.prog w = .ok false w := fun w => by kernel_rfl
  have h : ∀ w, (Op.equalIn (9999 + 1) 38 (.agg #[.int .i64 i, .int .i64 f, .int .i64 t, .int .i64 c, .int .i64 p, .int .i64 d, .int .i64 u, .int .i64 x, .int .i64 b, .int .i64 y]) (.agg #[.int .i64 i, .int .i64 f, .int .i64 t, .int .i64 c, .int .i64 p, .int .i64 d, .int .i64 u, .int .i64 x, .int .i64 b, .int .i64 y])).run Try.prog w = .ok true w := fun w => by
    rw [run_equalIn_agg w 9999 38 _ _ hS hp]
    simp only [Program.fieldsOf, Try.underlying38]
    go_simp
  simp only [binOp, Op.equal, Op.maxDepth, Sem.run_bind]
  rw [show (10000 : Nat) = 9999 + 1 from rfl, h]
  simp

theorem sameF_none (a1 a2 : Option Addr) (c1 c2 : Nat) (w : World) : Calls Try.prog 47 #[.slice a1 0 c1, .slice a2 0 c2] w fun e w' => e = .returned (.bool true) ∧ Kpt w w' := by
  go_enter Try.func47, Try.ntmps47
  go_wp2
  go_loop [5] (fun i => i = .int .i64 0) (fun _ => 0)
  case atStart => exact rfl
  case round =>
    obtain rfl := hrel
    go_wp2
    go_ret
    exact ⟨rfl, Kpt.refl _⟩

set_option maxHeartbeats 2000000 in
theorem sameF_some (b1 o1 c1 b2 o2 c2 : Nat) (fs : List (List Int)) (w : World) (hm : fs.length ≤ maxLen) (h1 : ∀ k, k < fs.length → FlAt w b1 (o1 + k * 10) (fs.getD k [])) (h2 : ∀ k, k < fs.length → FlAt w b2 (o2 + k * 10) (fs.getD k [])) :
    Calls Try.prog 47 #[.slice (some ⟨b1, o1, none⟩) fs.length c1, .slice (some ⟨b2, o2, none⟩) fs.length c2] w fun e w' => e = .returned (.bool true) ∧ Kpt w w' := by
  unfold maxLen at hm
  have H1 := Lib.hid h1; have H2 := Lib.hid h2
  clear h1 h2
  go_enter Try.func47, Try.ntmps47
  go_wp2
  go_loopw [5] (fun i wr => ∃ k : Nat, k ≤ fs.length ∧ i = .int .i64 k ∧ Hid (Kpt w wr)) (fun i _ => fs.length - (intOf i).toNat)
  case atStart => exact ⟨0, Nat.zero_le _, rfl, Kpt.refl _⟩
  case round =>
    obtain ⟨k, hk, rfl, HK⟩ := hrel
    by_cases hlt : k < fs.length
    · have hc := (H1.out k hlt).kpt HK.out
      have hd := (H2.out k hlt).kpt HK.out
      have c0 : wr.cell? ⟨b1, o1 + k * 10, none⟩ = _ := hc 0 (by omega)
      have c1 : wr.cell? ⟨b1, o1 + k * 10 + 1, none⟩ = _ := hc 1 (by omega)
      have c2 : wr.cell? ⟨b1, o1 + k * 10 + 2, none⟩ = _ := hc 2 (by omega)
      have c3 : wr.cell? ⟨b1, o1 + k * 10 + 3, none⟩ = _ := hc 3 (by omega)
      have c4 : wr.cell? ⟨b1, o1 + k * 10 + 4, none⟩ = _ := hc 4 (by omega)
      have c5 : wr.cell? ⟨b1, o1 + k * 10 + 5, none⟩ = _ := hc 5 (by omega)
      have c6 : wr.cell? ⟨b1, o1 + k * 10 + 6, none⟩ = _ := hc 6 (by omega)
      have c7 : wr.cell? ⟨b1, o1 + k * 10 + 7, none⟩ = _ := hc 7 (by omega)
      have c8 : wr.cell? ⟨b1, o1 + k * 10 + 8, none⟩ = _ := hc 8 (by omega)
      have c9 : wr.cell? ⟨b1, o1 + k * 10 + 9, none⟩ = _ := hc 9 (by omega)
      have d0 : wr.cell? ⟨b2, o2 + k * 10, none⟩ = _ := hd 0 (by omega)
      have d1 : wr.cell? ⟨b2, o2 + k * 10 + 1, none⟩ = _ := hd 1 (by omega)
      have d2 : wr.cell? ⟨b2, o2 + k * 10 + 2, none⟩ = _ := hd 2 (by omega)
      have d3 : wr.cell? ⟨b2, o2 + k * 10 + 3, none⟩ = _ := hd 3 (by omega)
      have d4 : wr.cell? ⟨b2, o2 + k * 10 + 4, none⟩ = _ := hd 4 (by omega)
      have d5 : wr.cell? ⟨b2, o2 + k * 10 + 5, none⟩ = _ := hd 5 (by omega)
      have d6 : wr.cell? ⟨b2, o2 + k * 10 + 6, none⟩ = _ := hd 6 (by omega)
      have d7 : wr.cell? ⟨b2, o2 + k * 10 + 7, none⟩ = _ := hd 7 (by omega)
      have d8 : wr.cell? ⟨b2, o2 + k * 10 + 8, none⟩ = _ := hd 8 (by omega)
      have d9 : wr.cell? ⟨b2, o2 + k * 10 + 9, none⟩ = _ := hd 9 (by omega)
      clear hc hd
      generalize (fs.getD k []).getD 0 0 = i at *
      generalize (fs.getD k []).getD 1 0 = f at *
      generalize (fs.getD k []).getD 2 0 = t at *
      generalize (fs.getD k []).getD 3 0 = c at *
      generalize (fs.getD k []).getD 4 0 = p at *
      generalize (fs.getD k []).getD 5 0 = d at *
      generalize (fs.getD k []).getD 6 0 = u at *
      generalize (fs.getD k []).getD 7 0 = x at *
      generalize (fs.getD k []).getD 8 0 = b at *
      generalize (fs.getD k []).getD 9 0 = y at *
      have qn := neqF i f t c p d u x b y
      have b0 : (0 : Int) ≤ (k : Int) := by omega
      have b1 : (k : Int) < (fs.length : Int) := by omega
      go_wp2
      go_quiet (fail)
      go_wp2
      go_roundw
      case rel => exact ⟨k + 1, by omega, by go_num, Kpt.drewN HK.out _⟩
      case measure => simp [intOf]; omega
    · go_wp2
      go_ret
      exact ⟨rfl, HK.out⟩

theorem ReadsF.cell {w : World} {v : Value} {fs : List (List Int)} (h : ReadsF w v fs) : (fs = [] ∧ ∃ a cap, v = .slice a 0 cap) ∨ (0 < fs.length ∧ ∃ b off cap, v = .slice (some ⟨b, off, none⟩) fs.length cap ∧ ∀ k, k < fs.length → FlAt w b (off + k * 10) (fs.getD k [])) := by
  obtain ⟨a, cap, rfl, hm, hb, hc⟩ := h
  by_cases h0 : fs = []
  · subst h0; exact .inl ⟨rfl, a, cap, rfl⟩
  · have hp : 0 < fs.length := by cases fs <;> simp at h0 ⊢
    obtain ⟨b, off, rfl, -⟩ := hc 0 hp
    refine .inr ⟨hp, b, off, cap, rfl, fun j hj => ?_⟩
    obtain ⟨b', off', e, h'⟩ := hc j hj
    simp only [Option.some.injEq, Addr.mk.injEq] at e
    obtain ⟨rfl, rfl, -⟩ := e
    exact h'
theorem sameF_any (v u : Value) (fs : List (List Int)) (w : World) (h1 : ReadsF w v fs) (h2 : ReadsF w u fs) : Calls Try.prog 47 #[v, u] w fun e w' => e = .returned (.bool true) ∧ Kpt w w' := by
  have hm : fs.length ≤ maxLen := by obtain ⟨a, cap, rfl, hm, -⟩ := h1; exact hm
  rcases h1.cell with ⟨rfl, a, c, rfl⟩ | ⟨h0, b1, o1, c1, rfl, k1⟩
  · rcases h2.cell with ⟨_, a', c', rfl⟩ | ⟨h0, _⟩
    · exact sameF_none a a' c c' w
    · simp at h0
  · rcases h2.cell with ⟨e, _⟩ | ⟨_, b2, o2, c2, rfl, k2⟩
    · rw [e] at h0; simp at h0
    · exact sameF_some b1 o1 c1 b2 o2 c2 fs w hm k1 k2

end Go.Proofs.Ytgccipmeiceonaa
