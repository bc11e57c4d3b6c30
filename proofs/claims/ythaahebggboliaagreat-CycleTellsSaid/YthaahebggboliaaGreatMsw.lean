/-
  Merged: SameF, SameW.
-/
import Derived.Test.YthaahebggboliaaGreatMf2
import Derived.Deep.QuietTactic
import Derived.BigQuiet
import Derived.Test.YthaahebggboliaaGreatMcp2
-- SameF
namespace Go.Proofs.YthaahebggboliaaGreat
open Go.RowKit
set_option linter.unusedVariables false

theorem neqF (i f t c p d u x b y : Int) (w : World) : (binOp .neq 42 (.agg #[.int .i64 i, .int .i64 f, .int .i64 t, .int .i64 c, .int .i64 p, .int .i64 d, .int .i64 u, .int .i64 x, .int .i64 b, .int .i64 y]) (.agg #[.int .i64 i, .int .i64 f, .int .i64 t, .int .i64 c, .int .i64 p, .int .i64 d, .int .i64 u, .int .i64 x, .int .i64 b, .int .i64 y])).run Tryz.prog w = .ok (.bool false) w := by
  have u3 := Tryz.underlying3
  have hS : Tryz.prog.underlying 42 = some (.struct (Tryz.prog.fieldsOf 42)) := by kernel_rfl
  have hp : Tryz.prog.stoodInHeld 42 = false := by kernel_rfl
  have a3 : ∀ w, (isAgg 3).run Tryz.prog w = .ok false w := fun w => by kernel_rfl
  have h : ∀ w, (Op.equalIn (9999 + 1) 42 (.agg #[.int .i64 i, .int .i64 f, .int .i64 t, .int .i64 c, .int .i64 p, .int .i64 d, .int .i64 u, .int .i64 x, .int .i64 b, .int .i64 y]) (.agg #[.int .i64 i, .int .i64 f, .int .i64 t, .int .i64 c, .int .i64 p, .int .i64 d, .int .i64 u, .int .i64 x, .int .i64 b, .int .i64 y])).run Tryz.prog w = .ok true w := fun w => by
    rw [run_equalIn_agg w 9999 42 _ _ hS hp]
    simp only [Program.fieldsOf, Tryz.underlying42]
    go_simp
  simp only [binOp, Op.equal, Op.maxDepth, Sem.run_bind]
  rw [show (10000 : Nat) = 9999 + 1 from rfl, h]
  simp

theorem sameF_none (a1 a2 : Option Addr) (c1 c2 : Nat) (w : World) : Calls Tryz.prog 26 #[.slice a1 0 c1, .slice a2 0 c2] w fun e w' => e = .returned (.bool true) ∧ Kpt w w' := by
  go_enter Tryz.func26, Tryz.ntmps26
  go_wp2
  go_loop [5] (fun i => i = .int .i64 0) (fun _ => 0)
  case atStart => exact rfl
  case round =>
    obtain rfl := hrel
    go_wp2
    go_ret
    exact ⟨rfl, Kpt.refl _⟩

set_option maxHeartbeats 2000000 in
theorem sameF_some (b1 o1 c1 b2 o2 c2 : Nat) (fs : List (List Int)) (w : World) (hm : fs.length ≤ maxLen) (h1 : ∀ k, k < fs.length → FlAt w b1 (o1 + k * 10) (fs.getD k [])) (h2 : ∀ k, k < fs.length → FlAt w b2 (o2 + k * 10) (fs.getD k [])) :
    Calls Tryz.prog 26 #[.slice (some ⟨b1, o1, none⟩) fs.length c1, .slice (some ⟨b2, o2, none⟩) fs.length c2] w fun e w' => e = .returned (.bool true) ∧ Kpt w w' := by
  unfold maxLen at hm
  have H1 := Lib.hid h1; have H2 := Lib.hid h2
  clear h1 h2
  go_enter Tryz.func26, Tryz.ntmps26
  go_wp2
  go_loopw [5] (fun i wr => ∃ k : Nat, k ≤ fs.length ∧ i = .int .i64 k ∧ Hid (Kpt w wr)) (fun i _ => fs.length - (intOf i).toNat)
  case atStart => exact ⟨0, Nat.zero_le _, rfl, Kpt.refl _⟩
  case round =>
    obtain ⟨k, hk, rfl, HK⟩ := hrel
    by_cases hlt : k < fs.length
    · have hc := (H1.out k hlt).kpt HK.out
      have hd := (H2.out k hlt).kpt HK.out
      have c0 : wr.cell? ⟨b1, o1 + k * 10, none⟩ = _ := hc 0 (by omega)
      have c1 : wr.cell? ⟨b1, o1 + k * 10 + 1, none⟩ = _ := hc 1 (by omega)
      have c2 : wr.cell? ⟨b1, o1 + k * 10 + 2, none⟩ = _ := hc 2 (by omega)
      have c3 : wr.cell? ⟨b1, o1 + k * 10 + 3, none⟩ = _ := hc 3 (by omega)
      have c4 : wr.cell? ⟨b1, o1 + k * 10 + 4, none⟩ = _ := hc 4 (by omega)
      have c5 : wr.cell? ⟨b1, o1 + k * 10 + 5, none⟩ = _ := hc 5 (by omega)
      have c6 : wr.cell? ⟨b1, o1 + k * 10 + 6, none⟩ = _ := hc 6 (by omega)
      have c7 : wr.cell? ⟨b1, o1 + k * 10 + 7, none⟩ = _ := hc 7 (by omega)
      have c8 : wr.cell? ⟨b1, o1 + k * 10 + 8, none⟩ = _ := hc 8 (by omega)
      have c9 : wr.cell? ⟨b1, o1 + k * 10 + 9, none⟩ = _ := hc 9 (by omega)
      have d0 : wr.cell? ⟨b2, o2 + k * 10, none⟩ = _ := hd 0 (by omega)
      have d1 : wr.cell? ⟨b2, o2 + k * 10 + 1, none⟩ = _ := hd 1 (by omega)
      have d2 : wr.cell? ⟨b2, o2 + k * 10 + 2, none⟩ = _ := hd 2 (by omega)
      have d3 : wr.cell? ⟨b2, o2 + k * 10 + 3, none⟩ = _ := hd 3 (by omega)
      have d4 : wr.cell? ⟨b2, o2 + k * 10 + 4, none⟩ = _ := hd 4 (by omega)
      have d5 : wr.cell? ⟨b2, o2 + k * 10 + 5, none⟩ = _ := hd 5 (by omega)
      have d6 : wr.cell? ⟨b2, o2 + k * 10 + 6, none⟩ = _ := hd 6 (by omega)
      have d7 : wr.cell? ⟨b2, o2 + k * 10 + 7, none⟩ = _ := hd 7 (by omega)
      have d8 : wr.cell? ⟨b2, o2 + k * 10 + 8, none⟩ = _ := hd 8 (by omega)
      have d9 : wr.cell? ⟨b2, o2 + k * 10 + 9, none⟩ = _ := hd 9 (by omega)
      clear hc hd
      generalize (fs.getD k []).getD 0 0 = i at *
      generalize (fs.getD k []).getD 1 0 = f at *
      generalize (fs.getD k []).getD 2 0 = t at *
      generalize (fs.getD k []).getD 3 0 = c at *
      generalize (fs.getD k []).getD 4 0 = p at *
      generalize (fs.getD k []).getD 5 0 = d at *
      generalize (fs.getD k []).getD 6 0 = u at *
      generalize (fs.getD k []).getD 7 0 = x at *
      generalize (fs.getD k []).getD 8 0 = b at *
      generalize (fs.getD k []).getD 9 0 = y at *
      have qn := neqF i f t c p d u x b y
      have b0 : (0 : Int) ≤ (k : Int) := by omega
      have b1 : (k : Int) < (fs.length : Int) := by omega
      go_wp2
      go_quiet (fail)
      go_wp2
      go_roundw
      case rel => exact ⟨k + 1, by omega, by go_num, Kpt.drewN HK.out _⟩
      case measure => simp [intOf]; omega
    · go_wp2
      go_ret
      exact ⟨rfl, HK.out⟩

theorem ReadsF.cell {w : World} {v : Value} {fs : List (List Int)} (h : ReadsF w v fs) : (fs = [] ∧ ∃ a cap, v = .slice a 0 cap) ∨ (0 < fs.length ∧ ∃ b off cap, v = .slice (some ⟨b, off, none⟩) fs.length cap ∧ ∀ k, k < fs.length → FlAt w b (off + k * 10) (fs.getD k [])) := by
  obtain ⟨a, cap, rfl, hm, hb, hc⟩ := h
  by_cases h0 : fs = []
  · subst h0; exact .inl ⟨rfl, a, cap, rfl⟩
  · have hp : 0 < fs.length := by cases fs <;> simp at h0 ⊢
    obtain ⟨b, off, rfl, -⟩ := hc 0 hp
    refine .inr ⟨hp, b, off, cap, rfl, fun j hj => ?_⟩
    obtain ⟨b', off', e, h'⟩ := hc j hj
    simp only [Option.some.injEq, Addr.mk.injEq] at e
    obtain ⟨rfl, rfl, -⟩ := e
    exact h'
theorem sameF_any (v u : Value) (fs : List (List Int)) (w : World) (h1 : ReadsF w v fs) (h2 : ReadsF w u fs) : Calls Tryz.prog 26 #[v, u] w fun e w' => e = .returned (.bool true) ∧ Kpt w w' := by
  have hm : fs.length ≤ maxLen := by obtain ⟨a, cap, rfl, hm, -⟩ := h1; exact hm
  rcases h1.cell with ⟨rfl, a, c, rfl⟩ | ⟨h0, b1, o1, c1, rfl, k1⟩
  · rcases h2.cell with ⟨_, a', c', rfl⟩ | ⟨h0, _⟩
    · exact sameF_none a a' c c' w
    · simp at h0
  · rcases h2.cell with ⟨e, _⟩ | ⟨_, b2, o2, c2, rfl, k2⟩
    · rw [e] at h0; simp at h0
    · exact sameF_some b1 o1 c1 b2 o2 c2 fs w hm k1 k2

end Go.Proofs.YthaahebggboliaaGreat

-- SameW
namespace Go.Proofs.YthaahebggboliaaGreat
open Go.RowKit
set_option linter.unusedVariables false

set_option maxRecDepth 100000 in
set_option maxHeartbeats 4000000 in
theorem sameW_any (T : Int) (fv fu bv bu : Value) (fs : List (List Int)) (b : List (Int × Int × Int)) (w : World) (h1 : ReadsF w fv fs) (h2 : ReadsF w fu fs) (h3 : ReadsP w bv b) (h4 : ReadsP w bu b) :
    Calls Tryz.prog 18 #[.agg #[.int .i64 T, fv, bv], .agg #[.int .i64 T, fu, bu]] w fun e w' => e = .returned (.bool true) ∧ Kpt w w' := by
  have SF := Lib.hid (fun w' (k : Kpt w w') => sameF_any fv fu fs w' (h1.kpt k) (h2.kpt k))
  have SP := Lib.hid (fun w' (k : Kpt w w') => sameP_any bv bu b w' (h3.kpt k) (h4.kpt k))
  obtain ⟨a1, c1, rfl, -⟩ := _root_.id h1
  obtain ⟨a2, c2, rfl, -⟩ := _root_.id h2
  obtain ⟨a3, c3, rfl, -⟩ := _root_.id h3
  obtain ⟨a4, c4, rfl, -⟩ := _root_.id h4
  have K0 : Hid (Kpt w ((w.alloc (.cells #[.int .i64 T, .slice a1 fs.length c1, .slice a3 b.length c3] 31)).alloc (.cells #[.int .i64 T, .slice a2 fs.length c2, .slice a4 b.length c4] 31))) := ((Kpt.refl w).alloc _).alloc _
  have B1 : Hid (Blk ((w.alloc (.cells #[.int .i64 T, .slice a1 fs.length c1, .slice a3 b.length c3] 31)).alloc (.cells #[.int .i64 T, .slice a2 fs.length c2, .slice a4 b.length c4] 31)) w.heap.size #[.int .i64 T, .slice a1 fs.length c1, .slice a3 b.length c3] 31) := (Blk.made w _ _).alloc _
  have B2 : Hid (Blk ((w.alloc (.cells #[.int .i64 T, .slice a1 fs.length c1, .slice a3 b.length c3] 31)).alloc (.cells #[.int .i64 T, .slice a2 fs.length c2, .slice a4 b.length c4] 31)) (w.heap.size + 1) #[.int .i64 T, .slice a2 fs.length c2, .slice a4 b.length c4] 31) := by
    have := Blk.made (w.alloc (.cells #[.int .i64 T, .slice a1 fs.length c1, .slice a3 b.length c3] 31)) #[.int .i64 T, .slice a2 fs.length c2, .slice a4 b.length c4] 31
    rwa [World.size_alloc] at this
  clear h1 h2 h3 h4
  go_enter Tryz.func18, Tryz.ntmps18
  go_wp2_with (first
    | (go_at_call 26; (with_reducible refine (SF.out _ K0.out).mono ?_); rintro e w1 ⟨rfl, k1⟩; have K1 := Lib.hid (ktr K0.out k1); have b1 := B1.out.kpt k1; have b2 := B2.out.kpt k1; have e1 : World.cell? w1 ⟨w.heap.size, 2, none⟩ = some (.slice a3 b.length c3) := b1.cell 2; have e2 : World.cell? w1 ⟨w.heap.size + 1, 2, none⟩ = some (.slice a4 b.length c4) := b2.cell 2; clear b1 b2 k1)
    | (go_at_call 19; (with_reducible refine (SP.out _ K1.out).mono ?_); rintro e w2 ⟨rfl, k2⟩; have K2 := Lib.hid (ktr K1.out k2); clear k2))
  go_ret
  exact ⟨rfl, K2.out⟩

end Go.Proofs.YthaahebggboliaaGreat
