/-
  What Deliver, Buy and Pay of package fail do.
-/
import Derived.Test.YtgccipmeiceonaaFailS
namespace Go.Proofs.Ytgccipmeiceonaa
open Go.RowKit
set_option linter.unusedVariables false


set_option maxHeartbeats 2000000 in
theorem pay_bad (i f t c p d u x b y : Int) (w : World) (E l : Int) (hE : failE i f t c p d u x b y = E) (hl : openV i f t c p d u x b y = l) (h : E ≠ 0) :
    Calls Try.prog 74 #[.agg #[.int .i64 i, .int .i64 f, .int .i64 t, .int .i64 c, .int .i64 p, .int .i64 d, .int .i64 u, .int .i64 x, .int .i64 b, .int .i64 y]] w fun e w' => e = .returned (.tuple #[.agg #[.int .i64 0, .int .i64 0, .int .i64 0, .int .i64 0, .int .i64 0, .int .i64 0, .int .i64 0, .int .i64 0, .int .i64 0, .int .i64 0], .int .i64 0, .int .i64 E]) ∧ Kpt w w' := by
  have OX := Lib.hid (fun w' => fopenX_run i f t c p d u x b y w')
  rw [hE, hl] at OX
  have z0 : (E != 0) = true := bne_iff_ne.2 h
  clear h
  clear hE hl
  go_enter Try.func74, Try.ntmps74
  go_wp2_with (first
    | (go_at_call 107; (with_reducible refine (OX.out _).mono ?_); rintro e w1 ⟨rfl, k1⟩; have K1 := Lib.hid (ktr (((Kpt.refl w).alloc (.cells #[.int .i64 i, .int .i64 f, .int .i64 t, .int .i64 c, .int .i64 p, .int .i64 d, .int .i64 u, .int .i64 x, .int .i64 b, .int .i64 y] 38)).alloc (.cells #[.int .i64 0, .int .i64 0, .int .i64 0, .int .i64 0, .int .i64 0, .int .i64 0, .int .i64 0, .int .i64 0, .int .i64 0, .int .i64 0] 38)) k1); have B1 : Hid (Blk w1 w.heap.size #[.int .i64 i, .int .i64 f, .int .i64 t, .int .i64 c, .int .i64 p, .int .i64 d, .int .i64 u, .int .i64 x, .int .i64 b, .int .i64 y] 38) := Blk.kpt ((Blk.made w #[.int .i64 i, .int .i64 f, .int .i64 t, .int .i64 c, .int .i64 p, .int .i64 d, .int .i64 u, .int .i64 x, .int .i64 b, .int .i64 y] 38).alloc _) k1; have R1 : Hid (Blk w1 (w.heap.size + 1) #[.int .i64 0, .int .i64 0, .int .i64 0, .int .i64 0, .int .i64 0, .int .i64 0, .int .i64 0, .int .i64 0, .int .i64 0, .int .i64 0] 38) := Blk.kpt (by have := Blk.made (w.alloc (.cells #[.int .i64 i, .int .i64 f, .int .i64 t, .int .i64 c, .int .i64 p, .int .i64 d, .int .i64 u, .int .i64 x, .int .i64 b, .int .i64 y] 38)) #[.int .i64 0, .int .i64 0, .int .i64 0, .int .i64 0, .int .i64 0, .int .i64 0, .int .i64 0, .int .i64 0, .int .i64 0, .int .i64 0] 38; simpa using this) k1; have ck : World.cell? w1 ⟨w.heap.size, 9, none⟩ = some (.int .i64 y) := B1.out.cell 9; have fk := B1.out.frozen 9; clear k1)
    | (refine wp_storeF rfl (.tmp 2) (.tmp 14) rfl (w.heap.size + 1) _ _ rfl rfl R1.out rfl rfl (by simp [Value.oneCell']) ?_; intro w9 r9 k9 _; have R9 := Lib.hid r9; have K9 := Lib.hid (k9 _ _ K1.out (by omega)); clear r9 k9))
  exact bodyPost_ret (v := .tuple #[.agg #[.int .i64 0, .int .i64 0, .int .i64 0, .int .i64 0, .int .i64 0, .int .i64 0, .int .i64 0, .int .i64 0, .int .i64 0, .int .i64 0], .int .i64 0, .int .i64 E]) (results_F3 Try.results74 _ _ _ _ _ _ rfl rfl rfl R9.out rfl) rfl ⟨rfl, K9.out⟩

set_option maxHeartbeats 2000000 in
theorem pay_none (i f t c p d u x b y : Int) (w : World) (hE : failE i f t c p d u x b y = 0) (hl : openV i f t c p d u x b y = 0) :
    Calls Try.prog 74 #[.agg #[.int .i64 i, .int .i64 f, .int .i64 t, .int .i64 c, .int .i64 p, .int .i64 d, .int .i64 u, .int .i64 x, .int .i64 b, .int .i64 y]] w fun e w' => e = .returned (.tuple #[.agg #[.int .i64 0, .int .i64 0, .int .i64 0, .int .i64 0, .int .i64 0, .int .i64 0, .int .i64 0, .int .i64 0, .int .i64 0, .int .i64 0], .int .i64 0, .int .i64 5]) ∧ Kpt w w' := by
  have OX := Lib.hid (fun w' => fopenX_run i f t c p d u x b y w')
  rw [hE, hl] at OX

  clear hE hl
  go_enter Try.func74, Try.ntmps74
  go_wp2_with (first
    | (go_at_call 107; (with_reducible refine (OX.out _).mono ?_); rintro e w1 ⟨rfl, k1⟩; have K1 := Lib.hid (ktr (((Kpt.refl w).alloc (.cells #[.int .i64 i, .int .i64 f, .int .i64 t, .int .i64 c, .int .i64 p, .int .i64 d, .int .i64 u, .int .i64 x, .int .i64 b, .int .i64 y] 38)).alloc (.cells #[.int .i64 0, .int .i64 0, .int .i64 0, .int .i64 0, .int .i64 0, .int .i64 0, .int .i64 0, .int .i64 0, .int .i64 0, .int .i64 0] 38)) k1); have B1 : Hid (Blk w1 w.heap.size #[.int .i64 i, .int .i64 f, .int .i64 t, .int .i64 c, .int .i64 p, .int .i64 d, .int .i64 u, .int .i64 x, .int .i64 b, .int .i64 y] 38) := Blk.kpt ((Blk.made w #[.int .i64 i, .int .i64 f, .int .i64 t, .int .i64 c, .int .i64 p, .int .i64 d, .int .i64 u, .int .i64 x, .int .i64 b, .int .i64 y] 38).alloc _) k1; have R1 : Hid (Blk w1 (w.heap.size + 1) #[.int .i64 0, .int .i64 0, .int .i64 0, .int .i64 0, .int .i64 0, .int .i64 0, .int .i64 0, .int .i64 0, .int .i64 0, .int .i64 0] 38) := Blk.kpt (by have := Blk.made (w.alloc (.cells #[.int .i64 i, .int .i64 f, .int .i64 t, .int .i64 c, .int .i64 p, .int .i64 d, .int .i64 u, .int .i64 x, .int .i64 b, .int .i64 y] 38)) #[.int .i64 0, .int .i64 0, .int .i64 0, .int .i64 0, .int .i64 0, .int .i64 0, .int .i64 0, .int .i64 0, .int .i64 0, .int .i64 0] 38; simpa using this) k1; have ck : World.cell? w1 ⟨w.heap.size, 9, none⟩ = some (.int .i64 y) := B1.out.cell 9; have fk := B1.out.frozen 9; clear k1)
    | (refine wp_storeF rfl (.tmp 2) (.tmp 18) rfl (w.heap.size + 1) _ _ rfl rfl R1.out rfl rfl (by simp [Value.oneCell']) ?_; intro w9 r9 k9 _; have R9 := Lib.hid r9; have K9 := Lib.hid (k9 _ _ K1.out (by omega)); clear r9 k9))
  exact bodyPost_ret (v := .tuple #[.agg #[.int .i64 0, .int .i64 0, .int .i64 0, .int .i64 0, .int .i64 0, .int .i64 0, .int .i64 0, .int .i64 0, .int .i64 0, .int .i64 0], .int .i64 0, .int .i64 5]) (results_F3 Try.results74 _ _ _ _ _ _ rfl rfl rfl R9.out rfl) rfl ⟨rfl, K9.out⟩

set_option maxHeartbeats 2000000 in
theorem pay_ok (i f t c p d u x b y : Int) (w : World) (l : Int) (hE : failE i f t c p d u x b y = 0) (hl : openV i f t c p d u x b y = l) (h : l ≠ 0) (h0 : 0 ≤ y) (h1 : y ≤ 1073741824) (h2 : 0 ≤ l) (h3 : l ≤ 1073741824) :
    Calls Try.prog 74 #[.agg #[.int .i64 i, .int .i64 f, .int .i64 t, .int .i64 c, .int .i64 p, .int .i64 d, .int .i64 u, .int .i64 x, .int .i64 b, .int .i64 y]] w fun e w' => e = .returned (.tuple #[.agg #[.int .i64 i, .int .i64 f, .int .i64 t, .int .i64 c, .int .i64 p, .int .i64 d, .int .i64 u, .int .i64 x, .int .i64 b, .int .i64 (y + l)], .int .i64 l, .int .i64 0]) ∧ Kpt w w' := by
  have OX := Lib.hid (fun w' => fopenX_run i f t c p d u x b y w')
  rw [hE, hl] at OX
  have z0 : (l == 0) = false := beq_eq_false_iff_ne.2 h
  have e1 : IntKind.i64.wrap (y + l) = y + l := by unfold IntKind.wrap; simp [IntKind.bits, IntKind.signed]; omega
  clear h
  clear hE hl
  go_enter Try.func74, Try.ntmps74
  go_wp2_with (first
    | (go_at_call 107; (with_reducible refine (OX.out _).mono ?_); rintro e w1 ⟨rfl, k1⟩; have K1 := Lib.hid (ktr (((Kpt.refl w).alloc (.cells #[.int .i64 i, .int .i64 f, .int .i64 t, .int .i64 c, .int .i64 p, .int .i64 d, .int .i64 u, .int .i64 x, .int .i64 b, .int .i64 y] 38)).alloc (.cells #[.int .i64 0, .int .i64 0, .int .i64 0, .int .i64 0, .int .i64 0, .int .i64 0, .int .i64 0, .int .i64 0, .int .i64 0, .int .i64 0] 38)) k1); have B1 : Hid (Blk w1 w.heap.size #[.int .i64 i, .int .i64 f, .int .i64 t, .int .i64 c, .int .i64 p, .int .i64 d, .int .i64 u, .int .i64 x, .int .i64 b, .int .i64 y] 38) := Blk.kpt ((Blk.made w #[.int .i64 i, .int .i64 f, .int .i64 t, .int .i64 c, .int .i64 p, .int .i64 d, .int .i64 u, .int .i64 x, .int .i64 b, .int .i64 y] 38).alloc _) k1; have R1 : Hid (Blk w1 (w.heap.size + 1) #[.int .i64 0, .int .i64 0, .int .i64 0, .int .i64 0, .int .i64 0, .int .i64 0, .int .i64 0, .int .i64 0, .int .i64 0, .int .i64 0] 38) := Blk.kpt (by have := Blk.made (w.alloc (.cells #[.int .i64 i, .int .i64 f, .int .i64 t, .int .i64 c, .int .i64 p, .int .i64 d, .int .i64 u, .int .i64 x, .int .i64 b, .int .i64 y] 38)) #[.int .i64 0, .int .i64 0, .int .i64 0, .int .i64 0, .int .i64 0, .int .i64 0, .int .i64 0, .int .i64 0, .int .i64 0, .int .i64 0] 38; simpa using this) k1; have ck : World.cell? w1 ⟨w.heap.size, 9, none⟩ = some (.int .i64 y) := B1.out.cell 9; have fk := B1.out.frozen 9; clear k1; have B2 : Hid (Blk (w1.setCell ⟨w.heap.size, 9, none⟩ (.int .i64 (y + l))) w.heap.size #[.int .i64 i, .int .i64 f, .int .i64 t, .int .i64 c, .int .i64 p, .int .i64 d, .int .i64 u, .int .i64 x, .int .i64 b, .int .i64 (y + l)] 38) := B1.out.put 9 _; have R2 := Lib.hid (R1.out.away (p := ⟨w.heap.size, 9, none⟩) (by simp) (.int .i64 (y + l))); have K2 := Lib.hid (Kpt.setCell K1.out (p := ⟨w.heap.size, 9, none⟩) (Nat.le_refl _) (.int .i64 (y + l))))
    | (refine wp_loadF rfl (.tmp 1) rfl w.heap.size _ rfl B2.out rfl ?_)
    | (refine wp_storeF rfl (.tmp 2) (.tmp 24) rfl (w.heap.size + 1) _ _ rfl rfl R2.out rfl rfl (by simp [Value.oneCell']) ?_; intro w9 r9 k9 _; have R9 := Lib.hid r9; have K9 := Lib.hid (k9 _ _ K2.out (by omega)); clear r9 k9))
  exact bodyPost_ret (v := .tuple #[.agg #[.int .i64 i, .int .i64 f, .int .i64 t, .int .i64 c, .int .i64 p, .int .i64 d, .int .i64 u, .int .i64 x, .int .i64 b, .int .i64 (y + l)], .int .i64 l, .int .i64 0]) (results_F3 Try.results74 _ _ _ _ _ _ rfl rfl rfl R9.out rfl) rfl ⟨rfl, K9.out⟩

end Go.Proofs.Ytgccipmeiceonaa
