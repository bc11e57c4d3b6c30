/-
  CompPay of the reference, and of the program, told alike.
-/
import Derived.Test.YtgccipmeiceonaaRefCmp
import Derived.Test.YtgccipmeiceonaaRefFail
import Derived.Test.YtgccipmeiceonaaCompD
import Derived.Test.YtgccipmeiceonaaFailE
import Derived.Deep.QuietTactic
import Derived.BigQuiet
import Derived.Deep.Cut
namespace Go.Proofs.Ytgccipmeiceonaa
open Go.RowKit
set_option linter.unusedVariables false

theorem Blk.madeC {w : World} {cs : Array Value} {T : TypeId} {g : Nat} (h : w.heap.size = g) : Blk (w.alloc (.cells cs T)) g cs T := by subst h; exact Blk.made _ _ _
theorem fail_bp {i f t c p d u x b y : Int} (h : failE i f t c p d u x b y = 0) : (0 ≤ f ∧ f ≤ 30) ∧ 0 ≤ t ∧ t ≤ 30 := by
  obtain ⟨h1, -, h3, h4⟩ := fail_0 h
  obtain ⟨-, -, h5, h6, h7, h8⟩ := fdue_t h1
  exact ⟨h5.1, h5.2⟩
/-- what a payment answers: the fail, the postings, the error -/
def PayRes (G : Array Value) (l : List (Int × Int × Int)) (E : Int) (w : World) (e : Ending) (w' : World) : Prop := ∃ a cap, e = .returned (.tuple #[.agg G, .slice a l.length cap, .int .i64 E]) ∧ ReadsP w' (.slice a l.length cap) l ∧ Kpt w w'
theorem payRes_nil {G : Array Value} {E : Int} {w w' : World} (k : Kpt w w') : PayRes G [] E w (.returned (.tuple #[.agg G, .slice none 0 0, .int .i64 E])) w' := ⟨none, 0, rfl, readsP_nil _ _ _ (fun _ => rfl), k⟩

set_option maxRecDepth 100000 in
set_option maxHeartbeats 2000000 in
theorem rcp_err (i f t c p d u x b y P X : Int) (w : World) (E : Int) (hE : E ≠ 0) (FC : ∀ w, Calls Try.prog 78 #[.agg #[.int .i64 i, .int .i64 f, .int .i64 t, .int .i64 c, .int .i64 p, .int .i64 d, .int .i64 u, .int .i64 x, .int .i64 b, .int .i64 y]] w fun e w' => e = .returned (.int .i64 E) ∧ Kpt w w') :
    Calls Try.prog 20 #[.agg #[.int .i64 i, .int .i64 f, .int .i64 t, .int .i64 c, .int .i64 p, .int .i64 d, .int .i64 u, .int .i64 x, .int .i64 b, .int .i64 y], .int .i64 P, .int .i64 X] w (PayRes #[.int .i64 0, .int .i64 0, .int .i64 0, .int .i64 0, .int .i64 0, .int .i64 0, .int .i64 0, .int .i64 0, .int .i64 0, .int .i64 0] [] E w) := by
  have BF : Hid (Blk ((w.alloc (.cells #[.int .i64 i, .int .i64 f, .int .i64 t, .int .i64 c, .int .i64 p, .int .i64 d, .int .i64 u, .int .i64 x, .int .i64 b, .int .i64 y] 38)).alloc (.cells #[.int .i64 0, .int .i64 0, .int .i64 0, .int .i64 0, .int .i64 0, .int .i64 0, .int .i64 0, .int .i64 0, .int .i64 0, .int .i64 0] 38)) w.heap.size #[.int .i64 i, .int .i64 f, .int .i64 t, .int .i64 c, .int .i64 p, .int .i64 d, .int .i64 u, .int .i64 x, .int .i64 b, .int .i64 y] 38) := (Blk.made w #[.int .i64 i, .int .i64 f, .int .i64 t, .int .i64 c, .int .i64 p, .int .i64 d, .int .i64 u, .int .i64 x, .int .i64 b, .int .i64 y] 38).alloc _
  have KA : Hid (Kpt w ((w.alloc (.cells #[.int .i64 i, .int .i64 f, .int .i64 t, .int .i64 c, .int .i64 p, .int .i64 d, .int .i64 u, .int .i64 x, .int .i64 b, .int .i64 y] 38)).alloc (.cells #[.int .i64 0, .int .i64 0, .int .i64 0, .int .i64 0, .int .i64 0, .int .i64 0, .int .i64 0, .int .i64 0, .int .i64 0, .int .i64 0] 38))) := ((Kpt.refl w).alloc _).alloc _
  have BZ : Hid (Blk ((w.alloc (.cells #[.int .i64 i, .int .i64 f, .int .i64 t, .int .i64 c, .int .i64 p, .int .i64 d, .int .i64 u, .int .i64 x, .int .i64 b, .int .i64 y] 38)).alloc (.cells #[.int .i64 0, .int .i64 0, .int .i64 0, .int .i64 0, .int .i64 0, .int .i64 0, .int .i64 0, .int .i64 0, .int .i64 0, .int .i64 0] 38)) (w.heap.size + 1) #[.int .i64 0, .int .i64 0, .int .i64 0, .int .i64 0, .int .i64 0, .int .i64 0, .int .i64 0, .int .i64 0, .int .i64 0, .int .i64 0] 38) := by have := Blk.made (w.alloc (.cells #[.int .i64 i, .int .i64 f, .int .i64 t, .int .i64 c, .int .i64 p, .int .i64 d, .int .i64 u, .int .i64 x, .int .i64 b, .int .i64 y] 38)) #[.int .i64 0, .int .i64 0, .int .i64 0, .int .i64 0, .int .i64 0, .int .i64 0, .int .i64 0, .int .i64 0, .int .i64 0, .int .i64 0] 38; rwa [World.size_alloc] at this
  have HC := Lib.hid FC
  have q0 : (E == 0) = false := beq_eq_false_iff_ne.2 hE
  have q1 : (E != 0) = true := bne_iff_ne.2 hE
  clear FC hE
  go_enter Try.func20, Try.ntmps20
  go_wp2_with (first
    | (refine wp_loadF rfl (.tmp 3) rfl w.heap.size _ rfl B2.out rfl ?_)
    | (refine wp_loadF rfl (.tmp 3) rfl w.heap.size _ rfl BF.out rfl ?_)
    | (go_at_call 78; (with_reducible refine (HC.out _).mono ?_); rintro e w1 ⟨rfl, k1⟩; have K1 := Lib.hid (ktr KA.out k1); have R1 := Lib.hid (BZ.out.kpt k1); have B1 := Lib.hid (BF.out.kpt k1); have c0 : World.cell? w1 ⟨w.heap.size, 0, none⟩ = some (.int .i64 i) := B1.out.cell 0; have c1 : World.cell? w1 ⟨w.heap.size, 1, none⟩ = some (.int .i64 f) := B1.out.cell 1; have c2 : World.cell? w1 ⟨w.heap.size, 2, none⟩ = some (.int .i64 t) := B1.out.cell 2; have c3 : World.cell? w1 ⟨w.heap.size, 3, none⟩ = some (.int .i64 c) := B1.out.cell 3; have c4 : World.cell? w1 ⟨w.heap.size, 4, none⟩ = some (.int .i64 p) := B1.out.cell 4; have c5 : World.cell? w1 ⟨w.heap.size, 5, none⟩ = some (.int .i64 d) := B1.out.cell 5; have c6 : World.cell? w1 ⟨w.heap.size, 6, none⟩ = some (.int .i64 u) := B1.out.cell 6; have c7 : World.cell? w1 ⟨w.heap.size, 7, none⟩ = some (.int .i64 x) := B1.out.cell 7; have c8 : World.cell? w1 ⟨w.heap.size, 8, none⟩ = some (.int .i64 b) := B1.out.cell 8; have c9 : World.cell? w1 ⟨w.heap.size, 9, none⟩ = some (.int .i64 y) := B1.out.cell 9; clear k1)
    | (refine wp_storeF rfl (.tmp 6) (.tmp 25) rfl (w.heap.size + 1) _ _ rfl rfl R1.out rfl rfl (by simp [Value.oneCell']) ?_; intro w9 r9 k9 o9; have R9 := Lib.hid r9; have K9 := Lib.hid (k9 _ _ K1.out (by omega)); clear r9 k9 o9)
    | fail)
  exact bodyPost_ret (v := .tuple #[.agg #[.int .i64 0, .int .i64 0, .int .i64 0, .int .i64 0, .int .i64 0, .int .i64 0, .int .i64 0, .int .i64 0, .int .i64 0, .int .i64 0], .slice none 0 0, .int .i64 E]) (results_F3 Try.results20 _ _ _ _ _ _ rfl rfl rfl R9.out rfl) rfl (payRes_nil K9.out)

set_option maxRecDepth 100000 in
set_option maxHeartbeats 2000000 in
theorem rcp_none (i f t c p d u x b y P X : Int) (w : World) (FC : ∀ w, Calls Try.prog 78 #[.agg #[.int .i64 i, .int .i64 f, .int .i64 t, .int .i64 c, .int .i64 p, .int .i64 d, .int .i64 u, .int .i64 x, .int .i64 b, .int .i64 y]] w fun e w' => e = .returned (.int .i64 0) ∧ Kpt w w') (FO : ∀ w, Calls Try.prog 67 #[.agg #[.int .i64 i, .int .i64 f, .int .i64 t, .int .i64 c, .int .i64 p, .int .i64 d, .int .i64 u, .int .i64 x, .int .i64 b, .int .i64 y]] w fun e w' => e = .returned (.int .i64 0) ∧ Kpt w w') :
    Calls Try.prog 20 #[.agg #[.int .i64 i, .int .i64 f, .int .i64 t, .int .i64 c, .int .i64 p, .int .i64 d, .int .i64 u, .int .i64 x, .int .i64 b, .int .i64 y], .int .i64 P, .int .i64 X] w (PayRes #[.int .i64 0, .int .i64 0, .int .i64 0, .int .i64 0, .int .i64 0, .int .i64 0, .int .i64 0, .int .i64 0, .int .i64 0, .int .i64 0] [] 5 w) := by
  have BF : Hid (Blk ((w.alloc (.cells #[.int .i64 i, .int .i64 f, .int .i64 t, .int .i64 c, .int .i64 p, .int .i64 d, .int .i64 u, .int .i64 x, .int .i64 b, .int .i64 y] 38)).alloc (.cells #[.int .i64 0, .int .i64 0, .int .i64 0, .int .i64 0, .int .i64 0, .int .i64 0, .int .i64 0, .int .i64 0, .int .i64 0, .int .i64 0] 38)) w.heap.size #[.int .i64 i, .int .i64 f, .int .i64 t, .int .i64 c, .int .i64 p, .int .i64 d, .int .i64 u, .int .i64 x, .int .i64 b, .int .i64 y] 38) := (Blk.made w #[.int .i64 i, .int .i64 f, .int .i64 t, .int .i64 c, .int .i64 p, .int .i64 d, .int .i64 u, .int .i64 x, .int .i64 b, .int .i64 y] 38).alloc _
  have KA : Hid (Kpt w ((w.alloc (.cells #[.int .i64 i, .int .i64 f, .int .i64 t, .int .i64 c, .int .i64 p, .int .i64 d, .int .i64 u, .int .i64 x, .int .i64 b, .int .i64 y] 38)).alloc (.cells #[.int .i64 0, .int .i64 0, .int .i64 0, .int .i64 0, .int .i64 0, .int .i64 0, .int .i64 0, .int .i64 0, .int .i64 0, .int .i64 0] 38))) := ((Kpt.refl w).alloc _).alloc _
  have BZ : Hid (Blk ((w.alloc (.cells #[.int .i64 i, .int .i64 f, .int .i64 t, .int .i64 c, .int .i64 p, .int .i64 d, .int .i64 u, .int .i64 x, .int .i64 b, .int .i64 y] 38)).alloc (.cells #[.int .i64 0, .int .i64 0, .int .i64 0, .int .i64 0, .int .i64 0, .int .i64 0, .int .i64 0, .int .i64 0, .int .i64 0, .int .i64 0] 38)) (w.heap.size + 1) #[.int .i64 0, .int .i64 0, .int .i64 0, .int .i64 0, .int .i64 0, .int .i64 0, .int .i64 0, .int .i64 0, .int .i64 0, .int .i64 0] 38) := by have := Blk.made (w.alloc (.cells #[.int .i64 i, .int .i64 f, .int .i64 t, .int .i64 c, .int .i64 p, .int .i64 d, .int .i64 u, .int .i64 x, .int .i64 b, .int .i64 y] 38)) #[.int .i64 0, .int .i64 0, .int .i64 0, .int .i64 0, .int .i64 0, .int .i64 0, .int .i64 0, .int .i64 0, .int .i64 0, .int .i64 0] 38; rwa [World.size_alloc] at this
  have HC := Lib.hid FC
  have HO := Lib.hid FO
  clear FC FO
  go_enter Try.func20, Try.ntmps20
  go_wp2_with (first
    | (refine wp_loadF rfl (.tmp 3) rfl w.heap.size _ rfl B2.out rfl ?_)
    | (refine wp_loadF rfl (.tmp 3) rfl w.heap.size _ rfl BF.out rfl ?_)
    | (go_at_call 78; (with_reducible refine (HC.out _).mono ?_); rintro e w1 ⟨rfl, k1⟩; have K1 := Lib.hid (ktr KA.out k1); have R1 := Lib.hid (BZ.out.kpt k1); have B1 := Lib.hid (BF.out.kpt k1); have c0 : World.cell? w1 ⟨w.heap.size, 0, none⟩ = some (.int .i64 i) := B1.out.cell 0; have c1 : World.cell? w1 ⟨w.heap.size, 1, none⟩ = some (.int .i64 f) := B1.out.cell 1; have c2 : World.cell? w1 ⟨w.heap.size, 2, none⟩ = some (.int .i64 t) := B1.out.cell 2; have c3 : World.cell? w1 ⟨w.heap.size, 3, none⟩ = some (.int .i64 c) := B1.out.cell 3; have c4 : World.cell? w1 ⟨w.heap.size, 4, none⟩ = some (.int .i64 p) := B1.out.cell 4; have c5 : World.cell? w1 ⟨w.heap.size, 5, none⟩ = some (.int .i64 d) := B1.out.cell 5; have c6 : World.cell? w1 ⟨w.heap.size, 6, none⟩ = some (.int .i64 u) := B1.out.cell 6; have c7 : World.cell? w1 ⟨w.heap.size, 7, none⟩ = some (.int .i64 x) := B1.out.cell 7; have c8 : World.cell? w1 ⟨w.heap.size, 8, none⟩ = some (.int .i64 b) := B1.out.cell 8; have c9 : World.cell? w1 ⟨w.heap.size, 9, none⟩ = some (.int .i64 y) := B1.out.cell 9; clear k1)
    | (go_at_call 67; (with_reducible refine (HO.out _).mono ?_); rintro e w3 ⟨rfl, k3⟩; have K3 := Lib.hid (ktr K2.out k3); have R3 := Lib.hid (R2.out.kpt k3); have B3 := Lib.hid (B2.out.kpt k3); clear k3)
    | (go_at_call 67; (with_reducible refine (HO.out _).mono ?_); rintro e w2 ⟨rfl, k2⟩; have K2 := Lib.hid (ktr K1.out k2); have R2 := Lib.hid (R1.out.kpt k2); have B2 := Lib.hid (B1.out.kpt k2); clear k2 c0 c1 c2 c3 c4 c5 c6 c7 c8 c9)
    | (refine wp_storeF rfl (.tmp 6) (.tmp 25) rfl (w.heap.size + 1) _ _ rfl rfl R2.out rfl rfl (by simp [Value.oneCell']) ?_; intro w9 r9 k9 o9; have R9 := Lib.hid r9; have K9 := Lib.hid (k9 _ _ K2.out (by omega)); clear r9 k9 o9)
    | fail)
  exact bodyPost_ret (v := .tuple #[.agg #[.int .i64 0, .int .i64 0, .int .i64 0, .int .i64 0, .int .i64 0, .int .i64 0, .int .i64 0, .int .i64 0, .int .i64 0, .int .i64 0], .slice none 0 0, .int .i64 5]) (results_F3 Try.results20 _ _ _ _ _ _ rfl rfl rfl R9.out rfl) rfl (payRes_nil K9.out)

set_option maxRecDepth 100000 in
set_option maxHeartbeats 2000000 in
theorem rcp_rng (i f t c p d u x b y P X : Int) (w : World) (l : Int) (hl : l ≠ 0) (FC : ∀ w, Calls Try.prog 78 #[.agg #[.int .i64 i, .int .i64 f, .int .i64 t, .int .i64 c, .int .i64 p, .int .i64 d, .int .i64 u, .int .i64 x, .int .i64 b, .int .i64 y]] w fun e w' => e = .returned (.int .i64 0) ∧ Kpt w w') (FO : ∀ w, Calls Try.prog 67 #[.agg #[.int .i64 i, .int .i64 f, .int .i64 t, .int .i64 c, .int .i64 p, .int .i64 d, .int .i64 u, .int .i64 x, .int .i64 b, .int .i64 y]] w fun e w' => e = .returned (.int .i64 l) ∧ Kpt w w') (W0 : RwtIs l P X 0 3) :
    Calls Try.prog 20 #[.agg #[.int .i64 i, .int .i64 f, .int .i64 t, .int .i64 c, .int .i64 p, .int .i64 d, .int .i64 u, .int .i64 x, .int .i64 b, .int .i64 y], .int .i64 P, .int .i64 X] w (PayRes #[.int .i64 0, .int .i64 0, .int .i64 0, .int .i64 0, .int .i64 0, .int .i64 0, .int .i64 0, .int .i64 0, .int .i64 0, .int .i64 0] [] 3 w) := by
  have BF : Hid (Blk ((w.alloc (.cells #[.int .i64 i, .int .i64 f, .int .i64 t, .int .i64 c, .int .i64 p, .int .i64 d, .int .i64 u, .int .i64 x, .int .i64 b, .int .i64 y] 38)).alloc (.cells #[.int .i64 0, .int .i64 0, .int .i64 0, .int .i64 0, .int .i64 0, .int .i64 0, .int .i64 0, .int .i64 0, .int .i64 0, .int .i64 0] 38)) w.heap.size #[.int .i64 i, .int .i64 f, .int .i64 t, .int .i64 c, .int .i64 p, .int .i64 d, .int .i64 u, .int .i64 x, .int .i64 b, .int .i64 y] 38) := (Blk.made w #[.int .i64 i, .int .i64 f, .int .i64 t, .int .i64 c, .int .i64 p, .int .i64 d, .int .i64 u, .int .i64 x, .int .i64 b, .int .i64 y] 38).alloc _
  have KA : Hid (Kpt w ((w.alloc (.cells #[.int .i64 i, .int .i64 f, .int .i64 t, .int .i64 c, .int .i64 p, .int .i64 d, .int .i64 u, .int .i64 x, .int .i64 b, .int .i64 y] 38)).alloc (.cells #[.int .i64 0, .int .i64 0, .int .i64 0, .int .i64 0, .int .i64 0, .int .i64 0, .int .i64 0, .int .i64 0, .int .i64 0, .int .i64 0] 38))) := ((Kpt.refl w).alloc _).alloc _
  have BZ : Hid (Blk ((w.alloc (.cells #[.int .i64 i, .int .i64 f, .int .i64 t, .int .i64 c, .int .i64 p, .int .i64 d, .int .i64 u, .int .i64 x, .int .i64 b, .int .i64 y] 38)).alloc (.cells #[.int .i64 0, .int .i64 0, .int .i64 0, .int .i64 0, .int .i64 0, .int .i64 0, .int .i64 0, .int .i64 0, .int .i64 0, .int .i64 0] 38)) (w.heap.size + 1) #[.int .i64 0, .int .i64 0, .int .i64 0, .int .i64 0, .int .i64 0, .int .i64 0, .int .i64 0, .int .i64 0, .int .i64 0, .int .i64 0] 38) := by have := Blk.made (w.alloc (.cells #[.int .i64 i, .int .i64 f, .int .i64 t, .int .i64 c, .int .i64 p, .int .i64 d, .int .i64 u, .int .i64 x, .int .i64 b, .int .i64 y] 38)) #[.int .i64 0, .int .i64 0, .int .i64 0, .int .i64 0, .int .i64 0, .int .i64 0, .int .i64 0, .int .i64 0, .int .i64 0, .int .i64 0] 38; rwa [World.size_alloc] at this
  have HC := Lib.hid FC
  have HO := Lib.hid FO
  have WT := Lib.hid W0
  have q0 : (l == 0) = false := beq_eq_false_iff_ne.2 hl
  clear FC FO W0 hl
  go_enter Try.func20, Try.ntmps20
  go_wp2_with (first
    | (refine wp_loadF rfl (.tmp 3) rfl w.heap.size _ rfl B2.out rfl ?_)
    | (refine wp_loadF rfl (.tmp 3) rfl w.heap.size _ rfl BF.out rfl ?_)
    | (go_at_call 78; (with_reducible refine (HC.out _).mono ?_); rintro e w1 ⟨rfl, k1⟩; have K1 := Lib.hid (ktr KA.out k1); have R1 := Lib.hid (BZ.out.kpt k1); have B1 := Lib.hid (BF.out.kpt k1); have c0 : World.cell? w1 ⟨w.heap.size, 0, none⟩ = some (.int .i64 i) := B1.out.cell 0; have c1 : World.cell? w1 ⟨w.heap.size, 1, none⟩ = some (.int .i64 f) := B1.out.cell 1; have c2 : World.cell? w1 ⟨w.heap.size, 2, none⟩ = some (.int .i64 t) := B1.out.cell 2; have c3 : World.cell? w1 ⟨w.heap.size, 3, none⟩ = some (.int .i64 c) := B1.out.cell 3; have c4 : World.cell? w1 ⟨w.heap.size, 4, none⟩ = some (.int .i64 p) := B1.out.cell 4; have c5 : World.cell? w1 ⟨w.heap.size, 5, none⟩ = some (.int .i64 d) := B1.out.cell 5; have c6 : World.cell? w1 ⟨w.heap.size, 6, none⟩ = some (.int .i64 u) := B1.out.cell 6; have c7 : World.cell? w1 ⟨w.heap.size, 7, none⟩ = some (.int .i64 x) := B1.out.cell 7; have c8 : World.cell? w1 ⟨w.heap.size, 8, none⟩ = some (.int .i64 b) := B1.out.cell 8; have c9 : World.cell? w1 ⟨w.heap.size, 9, none⟩ = some (.int .i64 y) := B1.out.cell 9; clear k1)
    | (go_at_call 67; (with_reducible refine (HO.out _).mono ?_); rintro e w3 ⟨rfl, k3⟩; have K3 := Lib.hid (ktr K2.out k3); have R3 := Lib.hid (R2.out.kpt k3); have B3 := Lib.hid (B2.out.kpt k3); clear k3)
    | (go_at_call 67; (with_reducible refine (HO.out _).mono ?_); rintro e w2 ⟨rfl, k2⟩; have K2 := Lib.hid (ktr K1.out k2); have R2 := Lib.hid (R1.out.kpt k2); have B2 := Lib.hid (B1.out.kpt k2); clear k2 c0 c1 c2 c3 c4 c5 c6 c7 c8 c9)
    | (go_at_call 19; (with_reducible refine (WT.out.run _).mono ?_); rintro e w4 ⟨rfl, k4⟩; have K4 := Lib.hid (ktr K3.out k4); have R4 := Lib.hid (R3.out.kpt k4); have B4 := Lib.hid (B3.out.kpt k4); clear k4)
    | (refine wp_storeF rfl (.tmp 6) (.tmp 38) rfl (w.heap.size + 1) _ _ rfl rfl R4.out rfl rfl (by simp [Value.oneCell']) ?_; intro w9 r9 k9 o9; have R9 := Lib.hid r9; have K9 := Lib.hid (k9 _ _ K4.out (by omega)); clear r9 k9 o9)
    | fail)
  exact bodyPost_ret (v := .tuple #[.agg #[.int .i64 0, .int .i64 0, .int .i64 0, .int .i64 0, .int .i64 0, .int .i64 0, .int .i64 0, .int .i64 0, .int .i64 0, .int .i64 0], .slice none 0 0, .int .i64 3]) (results_F3 Try.results20 _ _ _ _ _ _ rfl rfl rfl R9.out rfl) rfl (payRes_nil K9.out)

set_option maxRecDepth 100000 in
set_option maxHeartbeats 2000000 in
theorem rcp_zero (i f t c p d u x b y P X : Int) (w : World) (l y2 : Int) (hl : l ≠ 0) (hy : y2 = y + l) (hb : 0 ≤ y ∧ y ≤ 1073741824 ∧ 0 ≤ l ∧ l ≤ 1073741824) (FC : ∀ w, Calls Try.prog 78 #[.agg #[.int .i64 i, .int .i64 f, .int .i64 t, .int .i64 c, .int .i64 p, .int .i64 d, .int .i64 u, .int .i64 x, .int .i64 b, .int .i64 y]] w fun e w' => e = .returned (.int .i64 0) ∧ Kpt w w') (FO : ∀ w, Calls Try.prog 67 #[.agg #[.int .i64 i, .int .i64 f, .int .i64 t, .int .i64 c, .int .i64 p, .int .i64 d, .int .i64 u, .int .i64 x, .int .i64 b, .int .i64 y]] w fun e w' => e = .returned (.int .i64 l) ∧ Kpt w w') (W0 : RwtIs l P X 0 0) :
    Calls Try.prog 20 #[.agg #[.int .i64 i, .int .i64 f, .int .i64 t, .int .i64 c, .int .i64 p, .int .i64 d, .int .i64 u, .int .i64 x, .int .i64 b, .int .i64 y], .int .i64 P, .int .i64 X] w (PayRes #[.int .i64 i, .int .i64 f, .int .i64 t, .int .i64 c, .int .i64 p, .int .i64 d, .int .i64 u, .int .i64 x, .int .i64 b, .int .i64 y2] [] 0 w) := by
  have BF : Hid (Blk ((w.alloc (.cells #[.int .i64 i, .int .i64 f, .int .i64 t, .int .i64 c, .int .i64 p, .int .i64 d, .int .i64 u, .int .i64 x, .int .i64 b, .int .i64 y] 38)).alloc (.cells #[.int .i64 0, .int .i64 0, .int .i64 0, .int .i64 0, .int .i64 0, .int .i64 0, .int .i64 0, .int .i64 0, .int .i64 0, .int .i64 0] 38)) w.heap.size #[.int .i64 i, .int .i64 f, .int .i64 t, .int .i64 c, .int .i64 p, .int .i64 d, .int .i64 u, .int .i64 x, .int .i64 b, .int .i64 y] 38) := (Blk.made w #[.int .i64 i, .int .i64 f, .int .i64 t, .int .i64 c, .int .i64 p, .int .i64 d, .int .i64 u, .int .i64 x, .int .i64 b, .int .i64 y] 38).alloc _
  have KA : Hid (Kpt w ((w.alloc (.cells #[.int .i64 i, .int .i64 f, .int .i64 t, .int .i64 c, .int .i64 p, .int .i64 d, .int .i64 u, .int .i64 x, .int .i64 b, .int .i64 y] 38)).alloc (.cells #[.int .i64 0, .int .i64 0, .int .i64 0, .int .i64 0, .int .i64 0, .int .i64 0, .int .i64 0, .int .i64 0, .int .i64 0, .int .i64 0] 38))) := ((Kpt.refl w).alloc _).alloc _
  have BZ : Hid (Blk ((w.alloc (.cells #[.int .i64 i, .int .i64 f, .int .i64 t, .int .i64 c, .int .i64 p, .int .i64 d, .int .i64 u, .int .i64 x, .int .i64 b, .int .i64 y] 38)).alloc (.cells #[.int .i64 0, .int .i64 0, .int .i64 0, .int .i64 0, .int .i64 0, .int .i64 0, .int .i64 0, .int .i64 0, .int .i64 0, .int .i64 0] 38)) (w.heap.size + 1) #[.int .i64 0, .int .i64 0, .int .i64 0, .int .i64 0, .int .i64 0, .int .i64 0, .int .i64 0, .int .i64 0, .int .i64 0, .int .i64 0] 38) := by have := Blk.made (w.alloc (.cells #[.int .i64 i, .int .i64 f, .int .i64 t, .int .i64 c, .int .i64 p, .int .i64 d, .int .i64 u, .int .i64 x, .int .i64 b, .int .i64 y] 38)) #[.int .i64 0, .int .i64 0, .int .i64 0, .int .i64 0, .int .i64 0, .int .i64 0, .int .i64 0, .int .i64 0, .int .i64 0, .int .i64 0] 38; rwa [World.size_alloc] at this
  have HC := Lib.hid FC
  have HO := Lib.hid FO
  have WT := Lib.hid W0
  have q0 : (l == 0) = false := beq_eq_false_iff_ne.2 hl
  have m1 : IntKind.i64.wrap (y + l) = y2 := by rw [hy]; exact IntWalk.i64_in _ (by omega)
  clear FC FO W0 hl hy hb
  go_enter Try.func20, Try.ntmps20
  go_wp2_with (first
    | (refine wp_loadF rfl (.tmp 3) rfl w.heap.size _ rfl B2.out rfl ?_)
    | (refine wp_loadF rfl (.tmp 3) rfl w.heap.size _ rfl BF.out rfl ?_)
    | (go_at_call 78; (with_reducible refine (HC.out _).mono ?_); rintro e w1 ⟨rfl, k1⟩; have K1 := Lib.hid (ktr KA.out k1); have R1 := Lib.hid (BZ.out.kpt k1); have B1 := Lib.hid (BF.out.kpt k1); have c0 : World.cell? w1 ⟨w.heap.size, 0, none⟩ = some (.int .i64 i) := B1.out.cell 0; have c1 : World.cell? w1 ⟨w.heap.size, 1, none⟩ = some (.int .i64 f) := B1.out.cell 1; have c2 : World.cell? w1 ⟨w.heap.size, 2, none⟩ = some (.int .i64 t) := B1.out.cell 2; have c3 : World.cell? w1 ⟨w.heap.size, 3, none⟩ = some (.int .i64 c) := B1.out.cell 3; have c4 : World.cell? w1 ⟨w.heap.size, 4, none⟩ = some (.int .i64 p) := B1.out.cell 4; have c5 : World.cell? w1 ⟨w.heap.size, 5, none⟩ = some (.int .i64 d) := B1.out.cell 5; have c6 : World.cell? w1 ⟨w.heap.size, 6, none⟩ = some (.int .i64 u) := B1.out.cell 6; have c7 : World.cell? w1 ⟨w.heap.size, 7, none⟩ = some (.int .i64 x) := B1.out.cell 7; have c8 : World.cell? w1 ⟨w.heap.size, 8, none⟩ = some (.int .i64 b) := B1.out.cell 8; have c9 : World.cell? w1 ⟨w.heap.size, 9, none⟩ = some (.int .i64 y) := B1.out.cell 9; clear k1)
    | (go_at_call 67; (with_reducible refine (HO.out _).mono ?_); rintro e w3 ⟨rfl, k3⟩; have K3 := Lib.hid (ktr K2.out k3); have R3 := Lib.hid (R2.out.kpt k3); have B3 := Lib.hid (B2.out.kpt k3); clear k3)
    | (go_at_call 67; (with_reducible refine (HO.out _).mono ?_); rintro e w2 ⟨rfl, k2⟩; have K2 := Lib.hid (ktr K1.out k2); have R2 := Lib.hid (R1.out.kpt k2); have B2 := Lib.hid (B1.out.kpt k2); clear k2 c0 c1 c2 c3 c4 c5 c6 c7 c8 c9)
    | (go_at_call 19; (with_reducible refine (WT.out.run _).mono ?_); rintro e w4 ⟨rfl, k4⟩; have K4 := Lib.hid (ktr K3.out k4); have R4 := Lib.hid (R3.out.kpt k4); have B4 := Lib.hid (B3.out.kpt k4); have c1 : World.cell? w4 ⟨w.heap.size, 1, none⟩ = some (.int .i64 f) := B4.out.cell 1; have c2 : World.cell? w4 ⟨w.heap.size, 2, none⟩ = some (.int .i64 t) := B4.out.cell 2; have c9 : World.cell? w4 ⟨w.heap.size, 9, none⟩ = some (.int .i64 y) := B4.out.cell 9; have f9 : World.frozen? w4 ⟨w.heap.size, 9, none⟩ = false := Blk.frozen B4.out 9; clear k4)
    | fail)
  go_region
  have B5 : Hid (Blk w4.drew w.heap.size #[.int .i64 i, .int .i64 f, .int .i64 t, .int .i64 c, .int .i64 p, .int .i64 d, .int .i64 u, .int .i64 x, .int .i64 b, .int .i64 y] 38) := B4.out
  have R5 : Hid (Blk w4.drew (w.heap.size + 1) #[.int .i64 0, .int .i64 0, .int .i64 0, .int .i64 0, .int .i64 0, .int .i64 0, .int .i64 0, .int .i64 0, .int .i64 0, .int .i64 0] 38) := R4.out
  have K5 : Hid (Kpt w w4.drew) := Below.drew K4.out
  clear K4 B4 R4 c1 c2 c9 f9
  generalize World.drew w4 = w5 at *
  have c9 : World.cell? w5 ⟨w.heap.size, 9, none⟩ = some (.int .i64 y) := B5.out.cell 9
  have f9 : World.frozen? w5 ⟨w.heap.size, 9, none⟩ = false := Blk.frozen B5.out 9
  have B6 : Hid (Blk (w5.setCell ⟨w.heap.size, 9, none⟩ (.int .i64 y2)) w.heap.size #[.int .i64 i, .int .i64 f, .int .i64 t, .int .i64 c, .int .i64 p, .int .i64 d, .int .i64 u, .int .i64 x, .int .i64 b, .int .i64 y2] 38) := Blk.put B5.out 9 _
  have R6 : Hid (Blk (w5.setCell ⟨w.heap.size, 9, none⟩ (.int .i64 y2)) (w.heap.size + 1) #[.int .i64 0, .int .i64 0, .int .i64 0, .int .i64 0, .int .i64 0, .int .i64 0, .int .i64 0, .int .i64 0, .int .i64 0, .int .i64 0] 38) := Blk.away R5.out (by simp) _
  have K6 : Hid (Kpt w (w5.setCell ⟨w.heap.size, 9, none⟩ (.int .i64 y2))) := Kpt.setCell K5.out (p := ⟨w.heap.size, 9, none⟩) (Nat.le_refl _) _
  go_wp2_with (first
    | (refine wp_loadF rfl (.tmp 3) rfl w.heap.size _ rfl B6.out rfl ?_)
    | (refine wp_storeF rfl (.tmp 6) (.tmp 51) rfl (w.heap.size + 1) _ _ rfl rfl R6.out rfl rfl (by simp [Value.oneCell']) ?_; intro w9 r9 k9 o9; have R9 := Lib.hid r9; have K9 := Lib.hid (k9 _ _ K6.out (by omega)); clear r9 k9 o9)
    | fail)
  exact bodyPost_ret (v := .tuple #[.agg #[.int .i64 i, .int .i64 f, .int .i64 t, .int .i64 c, .int .i64 p, .int .i64 d, .int .i64 u, .int .i64 x, .int .i64 b, .int .i64 y2], .slice none 0 0, .int .i64 0]) (results_F3 Try.results20 _ _ _ _ _ _ rfl rfl rfl R9.out rfl) rfl (payRes_nil K9.out)

set_option maxRecDepth 100000 in
set_option maxHeartbeats 2000000 in
theorem rcp_ok (i f t c p d u x b y P X : Int) (w : World) (l y2 n : Int) (hl : l ≠ 0) (hy : y2 = y + l) (hb : 0 ≤ y ∧ y ≤ 1073741824 ∧ 0 ≤ l ∧ l ≤ 1073741824) (hn : n ≠ 0) (hn2 : 0 ≤ n ∧ n ≤ 1152921504606846976) (hp : (0 ≤ f ∧ f ≤ 30) ∧ 0 ≤ t ∧ t ≤ 30) (FC : ∀ w, Calls Try.prog 78 #[.agg #[.int .i64 i, .int .i64 f, .int .i64 t, .int .i64 c, .int .i64 p, .int .i64 d, .int .i64 u, .int .i64 x, .int .i64 b, .int .i64 y]] w fun e w' => e = .returned (.int .i64 0) ∧ Kpt w w') (FO : ∀ w, Calls Try.prog 67 #[.agg #[.int .i64 i, .int .i64 f, .int .i64 t, .int .i64 c, .int .i64 p, .int .i64 d, .int .i64 u, .int .i64 x, .int .i64 b, .int .i64 y]] w fun e w' => e = .returned (.int .i64 l) ∧ Kpt w w') (W0 : RwtIs l P X n 0) :
    Calls Try.prog 20 #[.agg #[.int .i64 i, .int .i64 f, .int .i64 t, .int .i64 c, .int .i64 p, .int .i64 d, .int .i64 u, .int .i64 x, .int .i64 b, .int .i64 y], .int .i64 P, .int .i64 X] w (PayRes #[.int .i64 i, .int .i64 f, .int .i64 t, .int .i64 c, .int .i64 p, .int .i64 d, .int .i64 u, .int .i64 x, .int .i64 b, .int .i64 y2] [(f, 0, -n), (t, 0, n)] 0 w) := by
  have BF : Hid (Blk ((w.alloc (.cells #[.int .i64 i, .int .i64 f, .int .i64 t, .int .i64 c, .int .i64 p, .int .i64 d, .int .i64 u, .int .i64 x, .int .i64 b, .int .i64 y] 38)).alloc (.cells #[.int .i64 0, .int .i64 0, .int .i64 0, .int .i64 0, .int .i64 0, .int .i64 0, .int .i64 0, .int .i64 0, .int .i64 0, .int .i64 0] 38)) w.heap.size #[.int .i64 i, .int .i64 f, .int .i64 t, .int .i64 c, .int .i64 p, .int .i64 d, .int .i64 u, .int .i64 x, .int .i64 b, .int .i64 y] 38) := (Blk.made w #[.int .i64 i, .int .i64 f, .int .i64 t, .int .i64 c, .int .i64 p, .int .i64 d, .int .i64 u, .int .i64 x, .int .i64 b, .int .i64 y] 38).alloc _
  have KA : Hid (Kpt w ((w.alloc (.cells #[.int .i64 i, .int .i64 f, .int .i64 t, .int .i64 c, .int .i64 p, .int .i64 d, .int .i64 u, .int .i64 x, .int .i64 b, .int .i64 y] 38)).alloc (.cells #[.int .i64 0, .int .i64 0, .int .i64 0, .int .i64 0, .int .i64 0, .int .i64 0, .int .i64 0, .int .i64 0, .int .i64 0, .int .i64 0] 38))) := ((Kpt.refl w).alloc _).alloc _
  have BZ : Hid (Blk ((w.alloc (.cells #[.int .i64 i, .int .i64 f, .int .i64 t, .int .i64 c, .int .i64 p, .int .i64 d, .int .i64 u, .int .i64 x, .int .i64 b, .int .i64 y] 38)).alloc (.cells #[.int .i64 0, .int .i64 0, .int .i64 0, .int .i64 0, .int .i64 0, .int .i64 0, .int .i64 0, .int .i64 0, .int .i64 0, .int .i64 0] 38)) (w.heap.size + 1) #[.int .i64 0, .int .i64 0, .int .i64 0, .int .i64 0, .int .i64 0, .int .i64 0, .int .i64 0, .int .i64 0, .int .i64 0, .int .i64 0] 38) := by have := Blk.made (w.alloc (.cells #[.int .i64 i, .int .i64 f, .int .i64 t, .int .i64 c, .int .i64 p, .int .i64 d, .int .i64 u, .int .i64 x, .int .i64 b, .int .i64 y] 38)) #[.int .i64 0, .int .i64 0, .int .i64 0, .int .i64 0, .int .i64 0, .int .i64 0, .int .i64 0, .int .i64 0, .int .i64 0, .int .i64 0] 38; rwa [World.size_alloc] at this
  have HC := Lib.hid FC
  have HO := Lib.hid FO
  have WT := Lib.hid W0
  have q0 : (l == 0) = false := beq_eq_false_iff_ne.2 hl
  have m1 : IntKind.i64.wrap (y + l) = y2 := by rw [hy]; exact IntWalk.i64_in _ (by omega)
  have q2 : (n == 0) = false := beq_eq_false_iff_ne.2 hn
  have m2 : IntKind.i64.wrap (-n) = -n := IntWalk.i64_in _ (by omega)
  have HI : Hid (InP [(f, 0, -n), (t, 0, n)]) := by unfold Hid InP; intro p hp2; simp only [List.mem_cons, List.not_mem_nil, or_false] at hp2; rcases hp2 with rfl | rfl <;> (simp only; omega)
  clear hn hn2 hp
  clear FC FO W0 hl hy hb
  go_enter Try.func20, Try.ntmps20
  go_wp2_with (first
    | (refine wp_loadF rfl (.tmp 3) rfl w.heap.size _ rfl B2.out rfl ?_)
    | (refine wp_loadF rfl (.tmp 3) rfl w.heap.size _ rfl BF.out rfl ?_)
    | (go_at_call 78; (with_reducible refine (HC.out _).mono ?_); rintro e w1 ⟨rfl, k1⟩; have K1 := Lib.hid (ktr KA.out k1); have R1 := Lib.hid (BZ.out.kpt k1); have B1 := Lib.hid (BF.out.kpt k1); have c0 : World.cell? w1 ⟨w.heap.size, 0, none⟩ = some (.int .i64 i) := B1.out.cell 0; have c1 : World.cell? w1 ⟨w.heap.size, 1, none⟩ = some (.int .i64 f) := B1.out.cell 1; have c2 : World.cell? w1 ⟨w.heap.size, 2, none⟩ = some (.int .i64 t) := B1.out.cell 2; have c3 : World.cell? w1 ⟨w.heap.size, 3, none⟩ = some (.int .i64 c) := B1.out.cell 3; have c4 : World.cell? w1 ⟨w.heap.size, 4, none⟩ = some (.int .i64 p) := B1.out.cell 4; have c5 : World.cell? w1 ⟨w.heap.size, 5, none⟩ = some (.int .i64 d) := B1.out.cell 5; have c6 : World.cell? w1 ⟨w.heap.size, 6, none⟩ = some (.int .i64 u) := B1.out.cell 6; have c7 : World.cell? w1 ⟨w.heap.size, 7, none⟩ = some (.int .i64 x) := B1.out.cell 7; have c8 : World.cell? w1 ⟨w.heap.size, 8, none⟩ = some (.int .i64 b) := B1.out.cell 8; have c9 : World.cell? w1 ⟨w.heap.size, 9, none⟩ = some (.int .i64 y) := B1.out.cell 9; clear k1)
    | (go_at_call 67; (with_reducible refine (HO.out _).mono ?_); rintro e w3 ⟨rfl, k3⟩; have K3 := Lib.hid (ktr K2.out k3); have R3 := Lib.hid (R2.out.kpt k3); have B3 := Lib.hid (B2.out.kpt k3); clear k3)
    | (go_at_call 67; (with_reducible refine (HO.out _).mono ?_); rintro e w2 ⟨rfl, k2⟩; have K2 := Lib.hid (ktr K1.out k2); have R2 := Lib.hid (R1.out.kpt k2); have B2 := Lib.hid (B1.out.kpt k2); clear k2 c0 c1 c2 c3 c4 c5 c6 c7 c8 c9)
    | (go_at_call 19; (with_reducible refine (WT.out.run _).mono ?_); rintro e w4 ⟨rfl, k4⟩; have K4 := Lib.hid (ktr K3.out k4); have R4 := Lib.hid (R3.out.kpt k4); have B4 := Lib.hid (B3.out.kpt k4); have c1 : World.cell? w4 ⟨w.heap.size, 1, none⟩ = some (.int .i64 f) := B4.out.cell 1; have c2 : World.cell? w4 ⟨w.heap.size, 2, none⟩ = some (.int .i64 t) := B4.out.cell 2; have c9 : World.cell? w4 ⟨w.heap.size, 9, none⟩ = some (.int .i64 y) := B4.out.cell 9; have f9 : World.frozen? w4 ⟨w.heap.size, 9, none⟩ = false := Blk.frozen B4.out 9; clear k4)
    | fail)
  go_region
  have B5 : Hid (Blk w4.drew w.heap.size #[.int .i64 i, .int .i64 f, .int .i64 t, .int .i64 c, .int .i64 p, .int .i64 d, .int .i64 u, .int .i64 x, .int .i64 b, .int .i64 y] 38) := B4.out
  have R5 : Hid (Blk w4.drew (w.heap.size + 1) #[.int .i64 0, .int .i64 0, .int .i64 0, .int .i64 0, .int .i64 0, .int .i64 0, .int .i64 0, .int .i64 0, .int .i64 0, .int .i64 0] 38) := R4.out
  have K5 : Hid (Kpt w w4.drew) := Below.drew K4.out
  clear K4 B4 R4 c1 c2 c9 f9
  generalize World.drew w4 = w5 at *
  have c9 : World.cell? w5 ⟨w.heap.size, 9, none⟩ = some (.int .i64 y) := B5.out.cell 9
  have f9 : World.frozen? w5 ⟨w.heap.size, 9, none⟩ = false := Blk.frozen B5.out 9
  have B6 : Hid (Blk (w5.setCell ⟨w.heap.size, 9, none⟩ (.int .i64 y2)) w.heap.size #[.int .i64 i, .int .i64 f, .int .i64 t, .int .i64 c, .int .i64 p, .int .i64 d, .int .i64 u, .int .i64 x, .int .i64 b, .int .i64 y2] 38) := Blk.put B5.out 9 _
  have R6 : Hid (Blk (w5.setCell ⟨w.heap.size, 9, none⟩ (.int .i64 y2)) (w.heap.size + 1) #[.int .i64 0, .int .i64 0, .int .i64 0, .int .i64 0, .int .i64 0, .int .i64 0, .int .i64 0, .int .i64 0, .int .i64 0, .int .i64 0] 38) := Blk.away R5.out (by simp) _
  have K6 : Hid (Kpt w (w5.setCell ⟨w.heap.size, 9, none⟩ (.int .i64 y2))) := Kpt.setCell K5.out (p := ⟨w.heap.size, 9, none⟩) (Nat.le_refl _) _
  have PB7 : Hid (Blk ((w5.setCell ⟨w.heap.size, 9, none⟩ (.int .i64 y2)).alloc (.cells #[.int .i64 f, .int .i64 0, .int .i64 (-n), .int .i64 t, .int .i64 0, .int .i64 n] 94)) w5.heap.size #[.int .i64 f, .int .i64 0, .int .i64 (-n), .int .i64 t, .int .i64 0, .int .i64 n] 94) := Blk.madeC (by simp)
  have R7 : Hid (Blk ((w5.setCell ⟨w.heap.size, 9, none⟩ (.int .i64 y2)).alloc (.cells #[.int .i64 f, .int .i64 0, .int .i64 (-n), .int .i64 t, .int .i64 0, .int .i64 n] 94)) (w.heap.size + 1) #[.int .i64 0, .int .i64 0, .int .i64 0, .int .i64 0, .int .i64 0, .int .i64 0, .int .i64 0, .int .i64 0, .int .i64 0, .int .i64 0] 38) := R6.out.alloc _
  have K7 : Hid (Kpt w ((w5.setCell ⟨w.heap.size, 9, none⟩ (.int .i64 y2)).alloc (.cells #[.int .i64 f, .int .i64 0, .int .i64 (-n), .int .i64 t, .int .i64 0, .int .i64 n] 94))) := K6.out.alloc _
  have N7 : w.heap.size + 1 < w5.heap.size := R5.out.lt
  go_wp2_with (first
    | (refine wp_loadF rfl (.tmp 3) rfl w.heap.size _ rfl B6.out rfl ?_)
    | (refine wp_storeF rfl (.tmp 6) (.tmp 52) rfl (w.heap.size + 1) _ _ rfl rfl R7.out rfl rfl (by simp [Value.oneCell']) ?_; intro w9 r9 k9 o9; have R9 := Lib.hid r9; have K9 := Lib.hid (k9 _ _ K7.out (by omega)); have PB9 := Lib.hid (PB7.out.block (o9 _ (by omega))); clear r9 k9 o9)
    | fail)
  exact bodyPost_ret (v := .tuple #[.agg #[.int .i64 i, .int .i64 f, .int .i64 t, .int .i64 c, .int .i64 p, .int .i64 d, .int .i64 u, .int .i64 x, .int .i64 b, .int .i64 y2], .slice (some ⟨w5.heap.size, 0, none⟩) 2 2, .int .i64 0]) (results_F3 Try.results20 _ _ _ _ _ _ rfl rfl rfl R9.out rfl) rfl ⟨_, _, rfl, two_post PB9.out HI.out, K9.out⟩

theorem pay_both (i f t c p d u x b y P X : Int) : ∃ G l E, (∃ z0 z1 z2 z3 z4 z5 z6 z7 z8 z9 : Int, G = #[.int .i64 z0, .int .i64 z1, .int .i64 z2, .int .i64 z3, .int .i64 z4, .int .i64 z5, .int .i64 z6, .int .i64 z7, .int .i64 z8, .int .i64 z9]) ∧
    (∀ w, Calls Try.prog 16 #[.agg #[.int .i64 i, .int .i64 f, .int .i64 t, .int .i64 c, .int .i64 p, .int .i64 d, .int .i64 u, .int .i64 x, .int .i64 b, .int .i64 y], .int .i64 P, .int .i64 X] w (PayRes G l E w)) ∧ ∀ w, Calls Try.prog 20 #[.agg #[.int .i64 i, .int .i64 f, .int .i64 t, .int .i64 c, .int .i64 p, .int .i64 d, .int .i64 u, .int .i64 x, .int .i64 b, .int .i64 y], .int .i64 P, .int .i64 X] w (PayRes G l E w) := by
  have FC : ∀ w, Calls Try.prog 78 #[.agg #[.int .i64 i, .int .i64 f, .int .i64 t, .int .i64 c, .int .i64 p, .int .i64 d, .int .i64 u, .int .i64 x, .int .i64 b, .int .i64 y]] w fun e w' => e = .returned (.int .i64 (failE i f t c p d u x b y)) ∧ Kpt w w' := fun w => rfc_run i f t c p d u x b y w
  have zz : ∃ z0 z1 z2 z3 z4 z5 z6 z7 z8 z9 : Int, (#[.int .i64 0, .int .i64 0, .int .i64 0, .int .i64 0, .int .i64 0, .int .i64 0, .int .i64 0, .int .i64 0, .int .i64 0, .int .i64 0] : Array Value) = #[.int .i64 z0, .int .i64 z1, .int .i64 z2, .int .i64 z3, .int .i64 z4, .int .i64 z5, .int .i64 z6, .int .i64 z7, .int .i64 z8, .int .i64 z9] := ⟨0, 0, 0, 0, 0, 0, 0, 0, 0, 0, rfl⟩
  by_cases hE : failE i f t c p d u x b y = 0
  · rw [hE] at FC
    have fb := fail_bp hE
    obtain ⟨g1, g2, g3, g4⟩ := fail_0 hE
    obtain ⟨-, -, -, -, -, hu⟩ := fdue_t g1
    obtain ⟨hx, hb, hy⟩ := ftk_t g3
    have FO : ∀ w, Calls Try.prog 67 #[.agg #[.int .i64 i, .int .i64 f, .int .i64 t, .int .i64 c, .int .i64 p, .int .i64 d, .int .i64 u, .int .i64 x, .int .i64 b, .int .i64 y]] w fun e w' => e = .returned (.int .i64 (u - x - b - y)) ∧ Kpt w w' := fun w => rfo_run i f t c p d u x b y w hu hx hb hy
    have hv : openV i f t c p d u x b y = u - x - b - y := by unfold openV; rw [if_pos hE]
    by_cases hl : u - x - b - y = 0
    · have FP : FpIs #[.int .i64 i, .int .i64 f, .int .i64 t, .int .i64 c, .int .i64 p, .int .i64 d, .int .i64 u, .int .i64 x, .int .i64 b, .int .i64 y] #[.int .i64 0, .int .i64 0, .int .i64 0, .int .i64 0, .int .i64 0, .int .i64 0, .int .i64 0, .int .i64 0, .int .i64 0, .int .i64 0] 0 5 := fun w => pay_none i f t c p d u x b y w hE (by rw [hv]; exact hl)
      rw [hl] at FO
      exact ⟨_, [], 5, zz, fun w => (cpay_err i f t c p d u x b y 0 0 5 0 P X (by decide) FP w).mono (fun e w' h => by obtain ⟨rfl, k⟩ := h; exact payRes_nil k), fun w => rcp_none i f t c p d u x b y P X w FC FO⟩
    · have FP : FpIs #[.int .i64 i, .int .i64 f, .int .i64 t, .int .i64 c, .int .i64 p, .int .i64 d, .int .i64 u, .int .i64 x, .int .i64 b, .int .i64 y] #[.int .i64 i, .int .i64 f, .int .i64 t, .int .i64 c, .int .i64 p, .int .i64 d, .int .i64 u, .int .i64 x, .int .i64 b, .int .i64 (y + (u - x - b - y))] (u - x - b - y) 0 := fun w => pay_ok i f t c p d u x b y w _ hE hv (by omega) (by omega) (by omega) (by omega) (by omega)
      have W0 := wt_is (u - x - b - y) P X
      have W1 := rwt_is (u - x - b - y) P X
      have zz2 : ∃ z0 z1 z2 z3 z4 z5 z6 z7 z8 z9 : Int, (#[.int .i64 i, .int .i64 f, .int .i64 t, .int .i64 c, .int .i64 p, .int .i64 d, .int .i64 u, .int .i64 x, .int .i64 b, .int .i64 (y + (u - x - b - y))] : Array Value) = #[.int .i64 z0, .int .i64 z1, .int .i64 z2, .int .i64 z3, .int .i64 z4, .int .i64 z5, .int .i64 z6, .int .i64 z7, .int .i64 z8, .int .i64 z9] := ⟨_, _, _, _, _, _, _, _, _, _, rfl⟩
      by_cases hW : wthE (u - x - b - y) P X = 0
      · rw [hW] at W0 W1
        have hwb : wthB (u - x - b - y) P X = true := by
          unfold wthE at hW
          split at hW
          · assumption
          · cases hW
        obtain ⟨b1, b2, b3⟩ := wth_t hwb
        have bd := wth_bd b1 b2 b3
        have cb := cost_bd b1 b3
        have nq : wthQ (u - x - b - y) P X = wthV (u - x - b - y) P X := if_pos hwb
        have nb : 0 ≤ wthQ (u - x - b - y) P X ∧ wthQ (u - x - b - y) P X ≤ 1152921504606846976 := by rw [nq]; unfold wthV; omega
        by_cases hn : wthQ (u - x - b - y) P X = 0
        · rw [hn] at W0 W1
          exact ⟨_, [], 0, zz2, fun w => (cpay_zero i f t c p d u x b y (y + (u - x - b - y)) (u - x - b - y) 0 0 P X FP W0 w).mono (fun e w' h => by obtain ⟨rfl, k⟩ := h; exact payRes_nil k), fun w => rcp_zero i f t c p d u x b y P X w _ _ hl rfl ⟨hy.1, by omega, by omega, by omega⟩ FC FO W1⟩
        · have hI : InP [(f, 0, -wthQ (u - x - b - y) P X), (t, 0, wthQ (u - x - b - y) P X)] := by
            intro q hq
            simp only [List.mem_cons, List.not_mem_nil, or_false] at hq
            rcases hq with rfl | rfl <;> (simp only; omega)
          exact ⟨_, _, 0, zz2, fun w => (cpay_ok i f t c p d u x b y (y + (u - x - b - y)) (u - x - b - y) 0 _ P X hn nb.1 nb.2 FP W0 w).mono (fun e w' h => by obtain ⟨g, rfl, B, k⟩ := h; exact ⟨_, _, rfl, two_post B hI, k⟩), fun w => rcp_ok i f t c p d u x b y P X w _ _ _ hl rfl ⟨hy.1, by omega, by omega, by omega⟩ hn nb fb FC FO W1⟩
      · have e3 : wthE (u - x - b - y) P X = 3 := by
          unfold wthE at hW ⊢
          split at hW
          · exact absurd rfl hW
          · next h => rw [if_neg h]
        have q0 : wthQ (u - x - b - y) P X = 0 := by
          unfold wthQ
          unfold wthE at hW
          split at hW
          · exact absurd rfl hW
          · next h => rw [if_neg h]
        rw [e3, q0] at W0 W1
        exact ⟨_, [], 3, zz, fun w => (cpay_rng i f t c p d u x b y (y + (u - x - b - y)) (u - x - b - y) 0 0 P X FP W0 w).mono (fun e w' h => by obtain ⟨rfl, k⟩ := h; exact payRes_nil k), fun w => rcp_rng i f t c p d u x b y P X w _ hl FC FO W1⟩
  · have FP : FpIs #[.int .i64 i, .int .i64 f, .int .i64 t, .int .i64 c, .int .i64 p, .int .i64 d, .int .i64 u, .int .i64 x, .int .i64 b, .int .i64 y] #[.int .i64 0, .int .i64 0, .int .i64 0, .int .i64 0, .int .i64 0, .int .i64 0, .int .i64 0, .int .i64 0, .int .i64 0, .int .i64 0] 0 (failE i f t c p d u x b y) := fun w => pay_bad i f t c p d u x b y w _ _ rfl rfl hE
    exact ⟨_, [], _, zz, fun w => (cpay_err i f t c p d u x b y 0 0 _ 0 P X hE FP w).mono (fun e w' h => by obtain ⟨rfl, k⟩ := h; exact payRes_nil k), fun w => rcp_err i f t c p d u x b y P X w _ hE FC⟩

end Go.Proofs.Ytgccipmeiceonaa
