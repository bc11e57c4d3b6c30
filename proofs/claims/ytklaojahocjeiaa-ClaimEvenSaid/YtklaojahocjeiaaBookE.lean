/-
  What slices.Concat, the order of lines and slices.SortFunc do at postings.
-/
import Derived.Test.YtklaojahocjeiaaBookD
import Derived.Shelf.SlSortCmp.QuietGrown
namespace Go.Proofs.Ytklaojahocjeiaa
open Go.RowKit Go.Sort Go.Lib
set_option linter.unusedVariables false

/-- the key by which lines are sorted, whatever numbers they hold -/
def keyP (p : Int × Int × Int) : Int := wrap64 (wrap64 (p.1 * 21) + p.2.1)
theorem key_plc {p : Int × Int × Int} (h : ptB p = true) : keyP p = plc p := by
  have := pt_t h
  unfold keyP plc wrap64
  omega
def encP (p : Int × Int × Int) : List Value := [.int .i64 p.1, .int .i64 p.2.1, .int .i64 p.2.2]

theorem place_raw (a u n : Int) (W : World) : Calls Try.prog 61 #[.agg #[.int .i64 a, .int .i64 u, .int .i64 n]] W fun e w' => e = .returned (.int .i64 (wrap64 (wrap64 (a * 21) + u))) ∧ ∃ q os', w' = Go.Sort.grow (W.drewN q) os' := by
  go_enter Try.func61, Try.ntmps61
  go_wp2
  go_ret
  exact ⟨rfl, 0, _, alloc_eq_grow _ _⟩
theorem place_raw' (p : Int × Int × Int) (W : World) (K : Int) (h : keyP p = K) : Calls Try.prog 61 #[.agg #[.int .i64 p.1, .int .i64 p.2.1, .int .i64 p.2.2]] W fun e w' => e = .returned (.int .i64 K) ∧ ∃ q os', w' = Go.Sort.grow (W.drewN q) os' := h ▸ place_raw p.1 p.2.1 p.2.2 W

theorem quiet_grown {W : World} {r : Int} : ∀ (e : Ending) (w' : World), (e = .returned (.int .i64 r) ∧ w' = W) → e = .returned (.int .i64 r) ∧ ∃ q os', w' = Go.Sort.grow (W.drewN q) os' := fun e w' h => ⟨h.1, 0, #[], by rw [h.2, grow_empty]; rfl⟩
set_option maxRecDepth 100000 in
set_option maxHeartbeats 1000000 in
theorem closure_run (x y : Int × Int × Int) (W : World) : Calls Try.prog 59 #[.agg #[.int .i64 x.1, .int .i64 x.2.1, .int .i64 x.2.2], .agg #[.int .i64 y.1, .int .i64 y.2.1, .int .i64 y.2.2]] W fun e w' => e = .returned (.int .i64 (Lib.compareInt (keyP x) (keyP y))) ∧ ∃ q os', w' = Go.Sort.grow (W.drewN q) os' := by
  have hx := Lib.hid (fun W => place_raw' x W _ rfl)
  have hy := Lib.hid (fun W => place_raw' y W _ rfl)
  generalize keyP x = X at *
  generalize keyP y = Y at *
  obtain ⟨x0, x1, x2⟩ := x
  obtain ⟨y0, y1, y2⟩ := y
  have hcon := Lib.hid (fun W' => Try.cmp_Compare_int X Y W')
  generalize Lib.compareInt X Y = r at hcon ⊢
  go_enter Try.func59, Try.ntmps59
  go_wp2
  have B0 := (Blk.made W #[.int .i64 x0, .int .i64 x1, .int .i64 x2] 53).alloc (.cells #[.int .i64 y0, .int .i64 y1, .int .i64 y2] 53)
  have B1 : Blk ((W.alloc (.cells #[.int .i64 x0, .int .i64 x1, .int .i64 x2] 53)).alloc (.cells #[.int .i64 y0, .int .i64 y1, .int .i64 y2] 53)) (W.heap.size + 1) #[.int .i64 y0, .int .i64 y1, .int .i64 y2] 53 := of_second W _ _ _
  have HE : Hid (∀ n os, ∃ q os', Go.Sort.grow (((W.alloc (.cells #[.int .i64 x0, .int .i64 x1, .int .i64 x2] 53)).alloc (.cells #[.int .i64 y0, .int .i64 y1, .int .i64 y2] 53)).drewN n) os = Go.Sort.grow (W.drewN q) os') := fun n os => ⟨n, _, by rw [alloc_eq_grow, alloc_eq_grow, grow_grow]; exact grow_grow (W.drewN n) _ _⟩
  generalize (W.alloc (.cells #[.int .i64 x0, .int .i64 x1, .int .i64 x2] 53)).alloc (.cells #[.int .i64 y0, .int .i64 y1, .int .i64 y2] 53) = W2 at *
  have f0 := cell_grown (w := W2) (a := ⟨W.heap.size, 0, none⟩) (v := .int .i64 x0) B0.lt (B0.cell 0)
  have f1 := cell_grown (w := W2) (a := ⟨W.heap.size, 1, none⟩) (v := .int .i64 x1) B0.lt (B0.cell 1)
  have f2 := cell_grown (w := W2) (a := ⟨W.heap.size, 2, none⟩) (v := .int .i64 x2) B0.lt (B0.cell 2)
  have g0 := cell_grown (w := W2) (a := ⟨W.heap.size + 1, 0, none⟩) (v := .int .i64 y0) B1.lt (B1.cell 0)
  have g1 := cell_grown (w := W2) (a := ⟨W.heap.size + 1, 1, none⟩) (v := .int .i64 y1) B1.lt (B1.cell 1)
  have g2 := cell_grown (w := W2) (a := ⟨W.heap.size + 1, 2, none⟩) (v := .int .i64 y2) B1.lt (B1.cell 2)
  clear B0 B1
  have mixed : Try.prog.follows .mixedOrders = true := by kernel_rfl
  go_quiet_grown (first
    | (go_at_call 61; with_reducible refine Calls.grown_of (hx.out _))
    | (go_at_call 61; with_reducible refine Calls.grown_of (hy.out _))
    | (go_at_call 60; with_reducible refine Calls.grown_of ((hcon.out _).mono quiet_grown)))
  go_wp2
  go_ret
  exact ⟨rfl, HE.out _ _⟩

end Go.Proofs.Ytklaojahocjeiaa
