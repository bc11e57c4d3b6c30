/-
  What Grow of package claim does with an event and fails that are wrong.
-/
import Derived.Test.YtklaojahocjeiaaClmG
import Derived.Laws.ResultCell
namespace Go.Proofs.Ytklaojahocjeiaa
open Go.RowKit
set_option linter.unusedVariables false
set_option maxRecDepth 100000

theorem results_cc {fn : Func} {p q : Tmp} (h : fn.results = #[.cell p 24, .cell q 25]) (tmps : Array Value) (w : World) (g k : Nat) (v : Value) (E : Int)
    (hp : tmps.getD p undef = .pointer (some ⟨g, 0, none⟩)) (hq : tmps.getD q undef = .pointer (some ⟨k, 0, none⟩)) (hg : w.cell? ⟨g, 0, none⟩ = some v) (hk : w.cell? ⟨k, 0, none⟩ = some (.int .i64 E)) : (results fn tmps).run Try.prog w = .ok (.tuple #[v, .int .i64 E]) w := by
  have hp' : tmps[p]?.getD undef = .pointer (some ⟨g, 0, none⟩) := by simpa using hp
  have hq' : tmps[q]?.getD undef = .pointer (some ⟨k, 0, none⟩) := by simpa using hq
  simp [results, h, hp', hq', asAddr, go_sem, hg, hk]
theorem grow_bad (P C G O : Int) (v : Value) (fs : List (List Int)) (w : World) (hr : ReadsF w v fs) (h : cwE P C G O fs ≠ 0) : Calls Try.prog 11 #[.agg #[.int .i64 P, .int .i64 C, .int .i64 G, .int .i64 O], v] w fun e w' => e = .returned (.tuple #[.slice none 0 0, .int .i64 (cwE P C G O fs)]) ∧ Kpt w w' := by
  obtain ⟨ad, cap, hv, -⟩ := id hr
  have k3 : Kpt w (((w.alloc (.cells #[.int .i64 P, .int .i64 C, .int .i64 G, .int .i64 O] 23)).alloc (.cells #[.slice none 0 0] 24)).alloc (.cells #[.int .i64 0] 25)) := (((Kpt.refl w).alloc _).alloc _).alloc _
  have KA := Lib.hid k3
  have B4 : Hid (Blk (((w.alloc (.cells #[.int .i64 P, .int .i64 C, .int .i64 G, .int .i64 O] 23)).alloc (.cells #[.slice none 0 0] 24)).alloc (.cells #[.int .i64 0] 25)) (w.heap.size + 1) #[.slice none 0 0] 24) := by
    have := Blk.made (w.alloc (.cells #[.int .i64 P, .int .i64 C, .int .i64 G, .int .i64 O] 23)) #[.slice none 0 0] 24
    rw [World.size_alloc] at this
    exact this.alloc _
  have B5 : Hid (Blk (((w.alloc (.cells #[.int .i64 P, .int .i64 C, .int .i64 G, .int .i64 O] 23)).alloc (.cells #[.slice none 0 0] 24)).alloc (.cells #[.int .i64 0] 25)) (w.heap.size + 2) #[.int .i64 0] 25) := by
    have := Blk.made ((w.alloc (.cells #[.int .i64 P, .int .i64 C, .int .i64 G, .int .i64 O] 23)).alloc (.cells #[.slice none 0 0] 24)) #[.int .i64 0] 25
    rwa [World.size_alloc, World.size_alloc] at this
  have CW := Lib.hid (fun w' (k : Kpt w w') => checkWith_any P C G O v fs w' (hr.kpt k))
  have z : (cwE P C G O fs != 0) = true := bne_iff_ne.2 h
  subst hv
  clear h hr k3
  generalize cwE P C G O fs = E at *
  generalize fs.length = n at *
  go_enter Try.func11, Try.ntmps11
  go_wp2_with (go_at_call 31; (with_reducible refine (CW.out _ KA.out).mono ?_); rintro e w1 ⟨rfl, k1⟩; have K1 := Lib.hid (ktr KA.out k1); have R4 := B4.out.kpt k1; have R5 := B5.out.kpt k1; have c4 := R4.cell 0; have f4 := R4.frozen 0; have c5 := R5.cell 0; have f5 := R5.frozen 0; have H4 := Lib.hid R4; have H5 := Lib.hid R5; clear k1 R4 R5)
  have X4 := (H4.out.put 0 (.slice none 0 0)).away (p := ⟨w.heap.size + 2, 0, none⟩) (by show w.heap.size + 1 ≠ w.heap.size + 2; omega) (.int .i64 E)
  have X5 := (H5.out.away (p := ⟨w.heap.size + 1, 0, none⟩) (by show w.heap.size + 2 ≠ w.heap.size + 1; omega) (.slice none 0 0)).put 0 (.int .i64 E)
  refine bodyPost_ret (results_cc rfl _ _ _ _ _ _ rfl rfl (X4.cell 0) (X5.cell 0)) rfl ?_
  exact ⟨rfl, (K1.out.setCell (p := ⟨w.heap.size + 1, 0, none⟩) (by show w.heap.size ≤ w.heap.size + 1; omega) _).setCell (p := ⟨w.heap.size + 2, 0, none⟩) (by show w.heap.size ≤ w.heap.size + 2; omega) _⟩

end Go.Proofs.Ytklaojahocjeiaa
