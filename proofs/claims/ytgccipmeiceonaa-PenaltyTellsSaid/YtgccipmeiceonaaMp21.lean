/-
  Merged: AgeD.
-/
import Derived.Test.YtgccipmeiceonaaMp20
import Derived.Test.YtgccipmeiceonaaMp1
-- AgeD
namespace Go.Proofs.Ytgccipmeiceonaa
open Go.RowKit
set_option linter.unusedVariables false

theorem Try.sizeView : (Try.prog.info? 159).map (·.size) = some 14 := by kernel_rfl
theorem wp_storeV {ops : Array Oper} {rest : List Oper} {o : Oper} {a : Act} {w : World} {Q : Exit → Act → World → Prop} (hgd : o.guard = none) (x y : Operand) (ho : o.op = .store 159 x y)
    (g : Nat) (cs old : Array Value) (hx : a.eval x = .pointer (some ⟨g, 0, none⟩)) (hy : a.eval y = .agg cs) (hg : Blk w g old 159) (hs : old.size = 14) (hc : cs.size = 14) (h1 : cs.all (·.oneCell') = true)
    (h : ∀ w', Blk w' g cs 159 → (∀ B w0, Below B w0 w → B ≤ g → Below B w0 w') → (∀ k, k ≠ g → w'.heap[k]? = w.heap[k]?) → wpList Try.prog ops Q rest (a.put o.dst undef) w') : wpList Try.prog ops Q (o :: rest) a w :=
  wpList_store_row hgd _ x y ho g cs hx hy _ old hg (by rw [hc]; exact Try.sizeView) (by omega) h1 (h _ (setRow_heap w g old cs _ _ hg) (fun B w0 hb hB => below_setRow hb hB cs) (fun k hk => setRow_other w g k cs hk))
theorem wp_loadV {ops : Array Oper} {rest : List Oper} {o : Oper} {a : Act} {w : World} {Q : Exit → Act → World → Prop} (hgd : o.guard = none) (x : Operand) (ho : o.op = .load 159 x)
    (g : Nat) (cs : Array Value) (hx : a.eval x = .pointer (some ⟨g, 0, none⟩)) (hg : Blk w g cs 159) (hc : cs.size = 14)
    (h : wpList Try.prog ops Q rest (a.put o.dst (.agg cs)) w) : wpList Try.prog ops Q (o :: rest) a w :=
  wpList_load_row hgd _ x ho g hx _ cs _ _ hg Try.underlying159 rfl (by rw [hc]; exact Try.sizeView) h
theorem results_V2 {fn : Func} {p q : Tmp} (h : fn.results = #[.cell p 159, .tmp q]) (tmps : Array Value) (w : World) (g : Nat) (cs : Array Value) (z : Value)
    (hp : tmps.getD p undef = .pointer (some ⟨g, 0, none⟩)) (hq : tmps.getD q undef = z) (hg : Blk w g cs 159) (hc : cs.size = 14) : (results fn tmps).run Try.prog w = .ok (.tuple #[.agg cs, z]) w := by
  have hp' : tmps[p]?.getD undef = .pointer (some ⟨g, 0, none⟩) := by simpa using hp
  have hq' : tmps[q]?.getD undef = z := by simpa using hq
  have hl := run_loadVar_row (P := Try.prog) w g 159 159 cs (0, 0) _ hg Try.underlying159 rfl (by rw [hc]; exact Try.sizeView)
  simp [results, h, hp', hq', asAddr, hl]

/-- the error of look -/
def lkE (W : Int) (hs : List Int) (te tb td tr i f t c p d u x b y q : Int) : Int := if ctE W hs te tb td tr = 0 then (if failE i f t c p d u x b y = 0 then (if dayB q = true then wlkE W hs d te tb td else 3) else failE i f t c p d u x b y) else ctE W hs te tb td tr
theorem lk_0 {W : Int} {hs : List Int} {te tb td tr i f t c p d u x b y q : Int} (h : lkE W hs te tb td tr i f t c p d u x b y q = 0) : ctE W hs te tb td tr = 0 ∧ failE i f t c p d u x b y = 0 ∧ dayB q = true ∧ wlkE W hs d te tb td = 0 := by
  unfold lkE at h
  split at h
  · next h1 =>
    split at h
    · next h2 =>
      split at h
      · next h3 => exact ⟨h1, h2, h3, h⟩
      · omega
    · next h2 => exact absurd h h2
  · next h1 => exact absurd h h1

set_option maxRecDepth 100000 in
set_option maxHeartbeats 4000000 in
theorem look_ct (W te tb td tr i f t c p d u x b y q : Int) (v : Value) (hs : List Int) (w : World) (hr : Reads w v hs) (hf : Fits hs) (E : Int) (h : ctE W hs te tb td tr = E) (h0 : E ≠ 0) :
    Calls Try.prog 133 #[calV W v, .agg #[.int .i64 te, .int .i64 tb, .int .i64 td, .int .i64 tr], .agg #[.int .i64 i, .int .i64 f, .int .i64 t, .int .i64 c, .int .i64 p, .int .i64 d, .int .i64 u, .int .i64 x, .int .i64 b, .int .i64 y], .int .i64 q] w fun z w' => z = .returned (.tuple #[.agg #[.int .i64 0, .int .i64 0, .int .i64 0, .int .i64 0, .int .i64 0, .int .i64 0, .int .i64 0, .int .i64 0, .int .i64 0, .int .i64 0, .int .i64 0, .int .i64 0, .int .i64 0, .int .i64 0], .int .i64 E]) ∧ Kpt w w' := by
  have CT := Lib.hid (fun w' (k : Kpt w w') => ct_run W te tb td tr v hs w' (hr.kpt k) hf)
  have OX := Lib.hid (fun w' => fopenX_run i f t c p d u x b y w')
  have DY := Lib.hid (fun w' (k : Kpt w w') => days_run W d te tb td tr v hs w' (hr.kpt k) hf)
  have K0 : Hid (Kpt w ((((w.alloc (.cells #[.int .i64 W, v] 24)).alloc (.cells #[.int .i64 te, .int .i64 tb, .int .i64 td, .int .i64 tr] 78)).alloc (.cells #[.int .i64 i, .int .i64 f, .int .i64 t, .int .i64 c, .int .i64 p, .int .i64 d, .int .i64 u, .int .i64 x, .int .i64 b, .int .i64 y] 38)).alloc (.cells #[.int .i64 0, .int .i64 0, .int .i64 0, .int .i64 0, .int .i64 0, .int .i64 0, .int .i64 0, .int .i64 0, .int .i64 0, .int .i64 0, .int .i64 0, .int .i64 0, .int .i64 0, .int .i64 0] 159))) := ((((Kpt.refl w).alloc _).alloc _).alloc _).alloc _
  have BC : Hid (Blk ((((w.alloc (.cells #[.int .i64 W, v] 24)).alloc (.cells #[.int .i64 te, .int .i64 tb, .int .i64 td, .int .i64 tr] 78)).alloc (.cells #[.int .i64 i, .int .i64 f, .int .i64 t, .int .i64 c, .int .i64 p, .int .i64 d, .int .i64 u, .int .i64 x, .int .i64 b, .int .i64 y] 38)).alloc (.cells #[.int .i64 0, .int .i64 0, .int .i64 0, .int .i64 0, .int .i64 0, .int .i64 0, .int .i64 0, .int .i64 0, .int .i64 0, .int .i64 0, .int .i64 0, .int .i64 0, .int .i64 0, .int .i64 0] 159)) w.heap.size #[.int .i64 W, v] 24) := (((Blk.made w _ _).alloc _).alloc _).alloc _
  have BT : Hid (Blk ((((w.alloc (.cells #[.int .i64 W, v] 24)).alloc (.cells #[.int .i64 te, .int .i64 tb, .int .i64 td, .int .i64 tr] 78)).alloc (.cells #[.int .i64 i, .int .i64 f, .int .i64 t, .int .i64 c, .int .i64 p, .int .i64 d, .int .i64 u, .int .i64 x, .int .i64 b, .int .i64 y] 38)).alloc (.cells #[.int .i64 0, .int .i64 0, .int .i64 0, .int .i64 0, .int .i64 0, .int .i64 0, .int .i64 0, .int .i64 0, .int .i64 0, .int .i64 0, .int .i64 0, .int .i64 0, .int .i64 0, .int .i64 0] 159)) (w.heap.size + 1) #[.int .i64 te, .int .i64 tb, .int .i64 td, .int .i64 tr] 78) := by
    have := ((Blk.made (w.alloc (.cells #[.int .i64 W, v] 24)) #[.int .i64 te, .int .i64 tb, .int .i64 td, .int .i64 tr] 78).alloc (.cells #[.int .i64 i, .int .i64 f, .int .i64 t, .int .i64 c, .int .i64 p, .int .i64 d, .int .i64 u, .int .i64 x, .int .i64 b, .int .i64 y] 38)).alloc (.cells #[.int .i64 0, .int .i64 0, .int .i64 0, .int .i64 0, .int .i64 0, .int .i64 0, .int .i64 0, .int .i64 0, .int .i64 0, .int .i64 0, .int .i64 0, .int .i64 0, .int .i64 0, .int .i64 0] 159)
    unfold Hid; simpa using this
  have BF : Hid (Blk ((((w.alloc (.cells #[.int .i64 W, v] 24)).alloc (.cells #[.int .i64 te, .int .i64 tb, .int .i64 td, .int .i64 tr] 78)).alloc (.cells #[.int .i64 i, .int .i64 f, .int .i64 t, .int .i64 c, .int .i64 p, .int .i64 d, .int .i64 u, .int .i64 x, .int .i64 b, .int .i64 y] 38)).alloc (.cells #[.int .i64 0, .int .i64 0, .int .i64 0, .int .i64 0, .int .i64 0, .int .i64 0, .int .i64 0, .int .i64 0, .int .i64 0, .int .i64 0, .int .i64 0, .int .i64 0, .int .i64 0, .int .i64 0] 159)) (w.heap.size + 2) #[.int .i64 i, .int .i64 f, .int .i64 t, .int .i64 c, .int .i64 p, .int .i64 d, .int .i64 u, .int .i64 x, .int .i64 b, .int .i64 y] 38) := by
    have := (Blk.made ((w.alloc (.cells #[.int .i64 W, v] 24)).alloc (.cells #[.int .i64 te, .int .i64 tb, .int .i64 td, .int .i64 tr] 78)) #[.int .i64 i, .int .i64 f, .int .i64 t, .int .i64 c, .int .i64 p, .int .i64 d, .int .i64 u, .int .i64 x, .int .i64 b, .int .i64 y] 38).alloc (.cells #[.int .i64 0, .int .i64 0, .int .i64 0, .int .i64 0, .int .i64 0, .int .i64 0, .int .i64 0, .int .i64 0, .int .i64 0, .int .i64 0, .int .i64 0, .int .i64 0, .int .i64 0, .int .i64 0] 159)
    unfold Hid; simpa using this
  have BR : Hid (Blk ((((w.alloc (.cells #[.int .i64 W, v] 24)).alloc (.cells #[.int .i64 te, .int .i64 tb, .int .i64 td, .int .i64 tr] 78)).alloc (.cells #[.int .i64 i, .int .i64 f, .int .i64 t, .int .i64 c, .int .i64 p, .int .i64 d, .int .i64 u, .int .i64 x, .int .i64 b, .int .i64 y] 38)).alloc (.cells #[.int .i64 0, .int .i64 0, .int .i64 0, .int .i64 0, .int .i64 0, .int .i64 0, .int .i64 0, .int .i64 0, .int .i64 0, .int .i64 0, .int .i64 0, .int .i64 0, .int .i64 0, .int .i64 0] 159)) (w.heap.size + 3) #[.int .i64 0, .int .i64 0, .int .i64 0, .int .i64 0, .int .i64 0, .int .i64 0, .int .i64 0, .int .i64 0, .int .i64 0, .int .i64 0, .int .i64 0, .int .i64 0, .int .i64 0, .int .i64 0] 159) := by
    have := Blk.made (((w.alloc (.cells #[.int .i64 W, v] 24)).alloc (.cells #[.int .i64 te, .int .i64 tb, .int .i64 td, .int .i64 tr] 78)).alloc (.cells #[.int .i64 i, .int .i64 f, .int .i64 t, .int .i64 c, .int .i64 p, .int .i64 d, .int .i64 u, .int .i64 x, .int .i64 b, .int .i64 y] 38)) #[.int .i64 0, .int .i64 0, .int .i64 0, .int .i64 0, .int .i64 0, .int .i64 0, .int .i64 0, .int .i64 0, .int .i64 0, .int .i64 0, .int .i64 0, .int .i64 0, .int .i64 0, .int .i64 0] 159
    unfold Hid; simpa using this
  obtain ⟨a, cap, rfl, -⟩ := hr
  unfold calV at *
  rw [h] at CT
  have z0 : (E != 0) = true := bne_iff_ne.2 h0
  clear h h0
  go_enter Try.func133, Try.ntmps133
  go_wp2_with (first
    | (go_at_call 146; (with_reducible refine (CT.out _ K0.out).mono ?_); rintro z w1 ⟨rfl, k1⟩; have K1 := Lib.hid (ktr K0.out k1); have BC := Lib.hid (BC.out.kpt k1); have BT := Lib.hid (BT.out.kpt k1); have BF := Lib.hid (BF.out.kpt k1); have BR := Lib.hid (BR.out.kpt k1); clear k1)
    | (refine wp_storeV rfl (.tmp 8) (.tmp 23) rfl (w.heap.size + 3) _ _ rfl rfl BR.out rfl rfl (by simp [Value.oneCell']) ?_; intro w9 r9 k9 _; have R9 := Lib.hid r9; have K9 := Lib.hid (k9 _ _ K1.out (by omega)); clear r9 k9))
  exact bodyPost_ret (v := .tuple #[.agg #[.int .i64 0, .int .i64 0, .int .i64 0, .int .i64 0, .int .i64 0, .int .i64 0, .int .i64 0, .int .i64 0, .int .i64 0, .int .i64 0, .int .i64 0, .int .i64 0, .int .i64 0, .int .i64 0], .int .i64 E]) (results_V2 Try.results133 _ _ _ _ _ rfl rfl R9.out rfl) rfl ⟨rfl, K9.out⟩

set_option maxRecDepth 100000 in
set_option maxHeartbeats 4000000 in
theorem look_fl (W te tb td tr i f t c p d u x b y q : Int) (v : Value) (hs : List Int) (w : World) (hr : Reads w v hs) (hf : Fits hs) (E : Int) (h : ctE W hs te tb td tr = 0) (h1 : failE i f t c p d u x b y = E) (h0 : E ≠ 0) :
    Calls Try.prog 133 #[calV W v, .agg #[.int .i64 te, .int .i64 tb, .int .i64 td, .int .i64 tr], .agg #[.int .i64 i, .int .i64 f, .int .i64 t, .int .i64 c, .int .i64 p, .int .i64 d, .int .i64 u, .int .i64 x, .int .i64 b, .int .i64 y], .int .i64 q] w fun z w' => z = .returned (.tuple #[.agg #[.int .i64 0, .int .i64 0, .int .i64 0, .int .i64 0, .int .i64 0, .int .i64 0, .int .i64 0, .int .i64 0, .int .i64 0, .int .i64 0, .int .i64 0, .int .i64 0, .int .i64 0, .int .i64 0], .int .i64 E]) ∧ Kpt w w' := by
  have CT := Lib.hid (fun w' (k : Kpt w w') => ct_run W te tb td tr v hs w' (hr.kpt k) hf)
  have OX := Lib.hid (fun w' => fopenX_run i f t c p d u x b y w')
  have DY := Lib.hid (fun w' (k : Kpt w w') => days_run W d te tb td tr v hs w' (hr.kpt k) hf)
  have K0 : Hid (Kpt w ((((w.alloc (.cells #[.int .i64 W, v] 24)).alloc (.cells #[.int .i64 te, .int .i64 tb, .int .i64 td, .int .i64 tr] 78)).alloc (.cells #[.int .i64 i, .int .i64 f, .int .i64 t, .int .i64 c, .int .i64 p, .int .i64 d, .int .i64 u, .int .i64 x, .int .i64 b, .int .i64 y] 38)).alloc (.cells #[.int .i64 0, .int .i64 0, .int .i64 0, .int .i64 0, .int .i64 0, .int .i64 0, .int .i64 0, .int .i64 0, .int .i64 0, .int .i64 0, .int .i64 0, .int .i64 0, .int .i64 0, .int .i64 0] 159))) := ((((Kpt.refl w).alloc _).alloc _).alloc _).alloc _
  have BC : Hid (Blk ((((w.alloc (.cells #[.int .i64 W, v] 24)).alloc (.cells #[.int .i64 te, .int .i64 tb, .int .i64 td, .int .i64 tr] 78)).alloc (.cells #[.int .i64 i, .int .i64 f, .int .i64 t, .int .i64 c, .int .i64 p, .int .i64 d, .int .i64 u, .int .i64 x, .int .i64 b, .int .i64 y] 38)).alloc (.cells #[.int .i64 0, .int .i64 0, .int .i64 0, .int .i64 0, .int .i64 0, .int .i64 0, .int .i64 0, .int .i64 0, .int .i64 0, .int .i64 0, .int .i64 0, .int .i64 0, .int .i64 0, .int .i64 0] 159)) w.heap.size #[.int .i64 W, v] 24) := (((Blk.made w _ _).alloc _).alloc _).alloc _
  have BT : Hid (Blk ((((w.alloc (.cells #[.int .i64 W, v] 24)).alloc (.cells #[.int .i64 te, .int .i64 tb, .int .i64 td, .int .i64 tr] 78)).alloc (.cells #[.int .i64 i, .int .i64 f, .int .i64 t, .int .i64 c, .int .i64 p, .int .i64 d, .int .i64 u, .int .i64 x, .int .i64 b, .int .i64 y] 38)).alloc (.cells #[.int .i64 0, .int .i64 0, .int .i64 0, .int .i64 0, .int .i64 0, .int .i64 0, .int .i64 0, .int .i64 0, .int .i64 0, .int .i64 0, .int .i64 0, .int .i64 0, .int .i64 0, .int .i64 0] 159)) (w.heap.size + 1) #[.int .i64 te, .int .i64 tb, .int .i64 td, .int .i64 tr] 78) := by
    have := ((Blk.made (w.alloc (.cells #[.int .i64 W, v] 24)) #[.int .i64 te, .int .i64 tb, .int .i64 td, .int .i64 tr] 78).alloc (.cells #[.int .i64 i, .int .i64 f, .int .i64 t, .int .i64 c, .int .i64 p, .int .i64 d, .int .i64 u, .int .i64 x, .int .i64 b, .int .i64 y] 38)).alloc (.cells #[.int .i64 0, .int .i64 0, .int .i64 0, .int .i64 0, .int .i64 0, .int .i64 0, .int .i64 0, .int .i64 0, .int .i64 0, .int .i64 0, .int .i64 0, .int .i64 0, .int .i64 0, .int .i64 0] 159)
    unfold Hid; simpa using this
  have BF : Hid (Blk ((((w.alloc (.cells #[.int .i64 W, v] 24)).alloc (.cells #[.int .i64 te, .int .i64 tb, .int .i64 td, .int .i64 tr] 78)).alloc (.cells #[.int .i64 i, .int .i64 f, .int .i64 t, .int .i64 c, .int .i64 p, .int .i64 d, .int .i64 u, .int .i64 x, .int .i64 b, .int .i64 y] 38)).alloc (.cells #[.int .i64 0, .int .i64 0, .int .i64 0, .int .i64 0, .int .i64 0, .int .i64 0, .int .i64 0, .int .i64 0, .int .i64 0, .int .i64 0, .int .i64 0, .int .i64 0, .int .i64 0, .int .i64 0] 159)) (w.heap.size + 2) #[.int .i64 i, .int .i64 f, .int .i64 t, .int .i64 c, .int .i64 p, .int .i64 d, .int .i64 u, .int .i64 x, .int .i64 b, .int .i64 y] 38) := by
    have := (Blk.made ((w.alloc (.cells #[.int .i64 W, v] 24)).alloc (.cells #[.int .i64 te, .int .i64 tb, .int .i64 td, .int .i64 tr] 78)) #[.int .i64 i, .int .i64 f, .int .i64 t, .int .i64 c, .int .i64 p, .int .i64 d, .int .i64 u, .int .i64 x, .int .i64 b, .int .i64 y] 38).alloc (.cells #[.int .i64 0, .int .i64 0, .int .i64 0, .int .i64 0, .int .i64 0, .int .i64 0, .int .i64 0, .int .i64 0, .int .i64 0, .int .i64 0, .int .i64 0, .int .i64 0, .int .i64 0, .int .i64 0] 159)
    unfold Hid; simpa using this
  have BR : Hid (Blk ((((w.alloc (.cells #[.int .i64 W, v] 24)).alloc (.cells #[.int .i64 te, .int .i64 tb, .int .i64 td, .int .i64 tr] 78)).alloc (.cells #[.int .i64 i, .int .i64 f, .int .i64 t, .int .i64 c, .int .i64 p, .int .i64 d, .int .i64 u, .int .i64 x, .int .i64 b, .int .i64 y] 38)).alloc (.cells #[.int .i64 0, .int .i64 0, .int .i64 0, .int .i64 0, .int .i64 0, .int .i64 0, .int .i64 0, .int .i64 0, .int .i64 0, .int .i64 0, .int .i64 0, .int .i64 0, .int .i64 0, .int .i64 0] 159)) (w.heap.size + 3) #[.int .i64 0, .int .i64 0, .int .i64 0, .int .i64 0, .int .i64 0, .int .i64 0, .int .i64 0, .int .i64 0, .int .i64 0, .int .i64 0, .int .i64 0, .int .i64 0, .int .i64 0, .int .i64 0] 159) := by
    have := Blk.made (((w.alloc (.cells #[.int .i64 W, v] 24)).alloc (.cells #[.int .i64 te, .int .i64 tb, .int .i64 td, .int .i64 tr] 78)).alloc (.cells #[.int .i64 i, .int .i64 f, .int .i64 t, .int .i64 c, .int .i64 p, .int .i64 d, .int .i64 u, .int .i64 x, .int .i64 b, .int .i64 y] 38)) #[.int .i64 0, .int .i64 0, .int .i64 0, .int .i64 0, .int .i64 0, .int .i64 0, .int .i64 0, .int .i64 0, .int .i64 0, .int .i64 0, .int .i64 0, .int .i64 0, .int .i64 0, .int .i64 0] 159
    unfold Hid; simpa using this
  obtain ⟨a, cap, rfl, -⟩ := hr
  unfold calV at *
  rw [h] at CT
  rw [h1] at OX
  have z0 : (E != 0) = true := bne_iff_ne.2 h0
  clear h h0 h1
  generalize openV i f t c p d u x b y = o at *
  go_enter Try.func133, Try.ntmps133
  go_wp2_with (first
    | (go_at_call 146; (with_reducible refine (CT.out _ K0.out).mono ?_); rintro z w1 ⟨rfl, k1⟩; have K1 := Lib.hid (ktr K0.out k1); have BC := Lib.hid (BC.out.kpt k1); have BT := Lib.hid (BT.out.kpt k1); have BF := Lib.hid (BF.out.kpt k1); have BR := Lib.hid (BR.out.kpt k1); clear k1)
    | (refine wp_loadF rfl (.tmp 6) rfl (w.heap.size + 2) _ rfl BF.out rfl ?_)
    | (go_at_call 107; (with_reducible refine (OX.out _).mono ?_); rintro z w2 ⟨rfl, k1⟩; have K2 := Lib.hid (ktr K1.out k1); have BC := Lib.hid (BC.out.kpt k1); have BT := Lib.hid (BT.out.kpt k1); have BF := Lib.hid (BF.out.kpt k1); have BR := Lib.hid (BR.out.kpt k1); have a0 : World.cell? w2 ⟨w.heap.size, 0, none⟩ = some (.int .i64 W) := BC.out.cell 0; have a1 : World.cell? w2 ⟨w.heap.size, 1, none⟩ = some (.slice a hs.length cap) := BC.out.cell 1; have c0 : World.cell? w2 ⟨(w.heap.size + 1), 0, none⟩ = some (.int .i64 te) := BT.out.cell 0; have c1 : World.cell? w2 ⟨(w.heap.size + 1), 1, none⟩ = some (.int .i64 tb) := BT.out.cell 1; have c2 : World.cell? w2 ⟨(w.heap.size + 1), 2, none⟩ = some (.int .i64 td) := BT.out.cell 2; have c3 : World.cell? w2 ⟨(w.heap.size + 1), 3, none⟩ = some (.int .i64 tr) := BT.out.cell 3; have fd : World.cell? w2 ⟨(w.heap.size + 2), 5, none⟩ = some (.int .i64 d) := BF.out.cell 5; clear k1)
    | (refine wp_storeV rfl (.tmp 8) (.tmp 32) rfl (w.heap.size + 3) _ _ rfl rfl BR.out rfl rfl (by simp [Value.oneCell']) ?_; intro w9 r9 k9 _; have R9 := Lib.hid r9; have K9 := Lib.hid (k9 _ _ K2.out (by omega)); clear r9 k9))
  exact bodyPost_ret (v := .tuple #[.agg #[.int .i64 0, .int .i64 0, .int .i64 0, .int .i64 0, .int .i64 0, .int .i64 0, .int .i64 0, .int .i64 0, .int .i64 0, .int .i64 0, .int .i64 0, .int .i64 0, .int .i64 0, .int .i64 0], .int .i64 E]) (results_V2 Try.results133 _ _ _ _ _ rfl rfl R9.out rfl) rfl ⟨rfl, K9.out⟩

set_option maxRecDepth 100000 in
set_option maxHeartbeats 4000000 in
theorem look_day (W te tb td tr i f t c p d u x b y q : Int) (v : Value) (hs : List Int) (w : World) (hr : Reads w v hs) (hf : Fits hs) (h : ctE W hs te tb td tr = 0) (h1 : failE i f t c p d u x b y = 0) (h2 : dayB q = false) :
    Calls Try.prog 133 #[calV W v, .agg #[.int .i64 te, .int .i64 tb, .int .i64 td, .int .i64 tr], .agg #[.int .i64 i, .int .i64 f, .int .i64 t, .int .i64 c, .int .i64 p, .int .i64 d, .int .i64 u, .int .i64 x, .int .i64 b, .int .i64 y], .int .i64 q] w fun z w' => z = .returned (.tuple #[.agg #[.int .i64 0, .int .i64 0, .int .i64 0, .int .i64 0, .int .i64 0, .int .i64 0, .int .i64 0, .int .i64 0, .int .i64 0, .int .i64 0, .int .i64 0, .int .i64 0, .int .i64 0, .int .i64 0], .int .i64 3]) ∧ Kpt w w' := by
  have WKD := Lib.hid (fun w' => wk_no q (by have := day_f h2; omega) w')
  have CT := Lib.hid (fun w' (k : Kpt w w') => ct_run W te tb td tr v hs w' (hr.kpt k) hf)
  have OX := Lib.hid (fun w' => fopenX_run i f t c p d u x b y w')
  have DY := Lib.hid (fun w' (k : Kpt w w') => days_run W d te tb td tr v hs w' (hr.kpt k) hf)
  have K0 : Hid (Kpt w ((((w.alloc (.cells #[.int .i64 W, v] 24)).alloc (.cells #[.int .i64 te, .int .i64 tb, .int .i64 td, .int .i64 tr] 78)).alloc (.cells #[.int .i64 i, .int .i64 f, .int .i64 t, .int .i64 c, .int .i64 p, .int .i64 d, .int .i64 u, .int .i64 x, .int .i64 b, .int .i64 y] 38)).alloc (.cells #[.int .i64 0, .int .i64 0, .int .i64 0, .int .i64 0, .int .i64 0, .int .i64 0, .int .i64 0, .int .i64 0, .int .i64 0, .int .i64 0, .int .i64 0, .int .i64 0, .int .i64 0, .int .i64 0] 159))) := ((((Kpt.refl w).alloc _).alloc _).alloc _).alloc _
  have BC : Hid (Blk ((((w.alloc (.cells #[.int .i64 W, v] 24)).alloc (.cells #[.int .i64 te, .int .i64 tb, .int .i64 td, .int .i64 tr] 78)).alloc (.cells #[.int .i64 i, .int .i64 f, .int .i64 t, .int .i64 c, .int .i64 p, .int .i64 d, .int .i64 u, .int .i64 x, .int .i64 b, .int .i64 y] 38)).alloc (.cells #[.int .i64 0, .int .i64 0, .int .i64 0, .int .i64 0, .int .i64 0, .int .i64 0, .int .i64 0, .int .i64 0, .int .i64 0, .int .i64 0, .int .i64 0, .int .i64 0, .int .i64 0, .int .i64 0] 159)) w.heap.size #[.int .i64 W, v] 24) := (((Blk.made w _ _).alloc _).alloc _).alloc _
  have BT : Hid (Blk ((((w.alloc (.cells #[.int .i64 W, v] 24)).alloc (.cells #[.int .i64 te, .int .i64 tb, .int .i64 td, .int .i64 tr] 78)).alloc (.cells #[.int .i64 i, .int .i64 f, .int .i64 t, .int .i64 c, .int .i64 p, .int .i64 d, .int .i64 u, .int .i64 x, .int .i64 b, .int .i64 y] 38)).alloc (.cells #[.int .i64 0, .int .i64 0, .int .i64 0, .int .i64 0, .int .i64 0, .int .i64 0, .int .i64 0, .int .i64 0, .int .i64 0, .int .i64 0, .int .i64 0, .int .i64 0, .int .i64 0, .int .i64 0] 159)) (w.heap.size + 1) #[.int .i64 te, .int .i64 tb, .int .i64 td, .int .i64 tr] 78) := by
    have := ((Blk.made (w.alloc (.cells #[.int .i64 W, v] 24)) #[.int .i64 te, .int .i64 tb, .int .i64 td, .int .i64 tr] 78).alloc (.cells #[.int .i64 i, .int .i64 f, .int .i64 t, .int .i64 c, .int .i64 p, .int .i64 d, .int .i64 u, .int .i64 x, .int .i64 b, .int .i64 y] 38)).alloc (.cells #[.int .i64 0, .int .i64 0, .int .i64 0, .int .i64 0, .int .i64 0, .int .i64 0, .int .i64 0, .int .i64 0, .int .i64 0, .int .i64 0, .int .i64 0, .int .i64 0, .int .i64 0, .int .i64 0] 159)
    unfold Hid; simpa using this
  have BF : Hid (Blk ((((w.alloc (.cells #[.int .i64 W, v] 24)).alloc (.cells #[.int .i64 te, .int .i64 tb, .int .i64 td, .int .i64 tr] 78)).alloc (.cells #[.int .i64 i, .int .i64 f, .int .i64 t, .int .i64 c, .int .i64 p, .int .i64 d, .int .i64 u, .int .i64 x, .int .i64 b, .int .i64 y] 38)).alloc (.cells #[.int .i64 0, .int .i64 0, .int .i64 0, .int .i64 0, .int .i64 0, .int .i64 0, .int .i64 0, .int .i64 0, .int .i64 0, .int .i64 0, .int .i64 0, .int .i64 0, .int .i64 0, .int .i64 0] 159)) (w.heap.size + 2) #[.int .i64 i, .int .i64 f, .int .i64 t, .int .i64 c, .int .i64 p, .int .i64 d, .int .i64 u, .int .i64 x, .int .i64 b, .int .i64 y] 38) := by
    have := (Blk.made ((w.alloc (.cells #[.int .i64 W, v] 24)).alloc (.cells #[.int .i64 te, .int .i64 tb, .int .i64 td, .int .i64 tr] 78)) #[.int .i64 i, .int .i64 f, .int .i64 t, .int .i64 c, .int .i64 p, .int .i64 d, .int .i64 u, .int .i64 x, .int .i64 b, .int .i64 y] 38).alloc (.cells #[.int .i64 0, .int .i64 0, .int .i64 0, .int .i64 0, .int .i64 0, .int .i64 0, .int .i64 0, .int .i64 0, .int .i64 0, .int .i64 0, .int .i64 0, .int .i64 0, .int .i64 0, .int .i64 0] 159)
    unfold Hid; simpa using this
  have BR : Hid (Blk ((((w.alloc (.cells #[.int .i64 W, v] 24)).alloc (.cells #[.int .i64 te, .int .i64 tb, .int .i64 td, .int .i64 tr] 78)).alloc (.cells #[.int .i64 i, .int .i64 f, .int .i64 t, .int .i64 c, .int .i64 p, .int .i64 d, .int .i64 u, .int .i64 x, .int .i64 b, .int .i64 y] 38)).alloc (.cells #[.int .i64 0, .int .i64 0, .int .i64 0, .int .i64 0, .int .i64 0, .int .i64 0, .int .i64 0, .int .i64 0, .int .i64 0, .int .i64 0, .int .i64 0, .int .i64 0, .int .i64 0, .int .i64 0] 159)) (w.heap.size + 3) #[.int .i64 0, .int .i64 0, .int .i64 0, .int .i64 0, .int .i64 0, .int .i64 0, .int .i64 0, .int .i64 0, .int .i64 0, .int .i64 0, .int .i64 0, .int .i64 0, .int .i64 0, .int .i64 0] 159) := by
    have := Blk.made (((w.alloc (.cells #[.int .i64 W, v] 24)).alloc (.cells #[.int .i64 te, .int .i64 tb, .int .i64 td, .int .i64 tr] 78)).alloc (.cells #[.int .i64 i, .int .i64 f, .int .i64 t, .int .i64 c, .int .i64 p, .int .i64 d, .int .i64 u, .int .i64 x, .int .i64 b, .int .i64 y] 38)) #[.int .i64 0, .int .i64 0, .int .i64 0, .int .i64 0, .int .i64 0, .int .i64 0, .int .i64 0, .int .i64 0, .int .i64 0, .int .i64 0, .int .i64 0, .int .i64 0, .int .i64 0, .int .i64 0] 159
    unfold Hid; simpa using this
  obtain ⟨a, cap, rfl, -⟩ := hr
  unfold calV at *
  rw [h] at CT
  rw [h1] at OX
  clear h h1 h2
  generalize openV i f t c p d u x b y = o at *
  go_enter Try.func133, Try.ntmps133
  go_wp2_with (first
    | (go_at_call 146; (with_reducible refine (CT.out _ K0.out).mono ?_); rintro z w1 ⟨rfl, k1⟩; have K1 := Lib.hid (ktr K0.out k1); have BC := Lib.hid (BC.out.kpt k1); have BT := Lib.hid (BT.out.kpt k1); have BF := Lib.hid (BF.out.kpt k1); have BR := Lib.hid (BR.out.kpt k1); clear k1)
    | (refine wp_loadF rfl (.tmp 6) rfl (w.heap.size + 2) _ rfl BF.out rfl ?_)
    | (go_at_call 107; (with_reducible refine (OX.out _).mono ?_); rintro z w2 ⟨rfl, k1⟩; have K2 := Lib.hid (ktr K1.out k1); have BC := Lib.hid (BC.out.kpt k1); have BT := Lib.hid (BT.out.kpt k1); have BF := Lib.hid (BF.out.kpt k1); have BR := Lib.hid (BR.out.kpt k1); have a0 : World.cell? w2 ⟨w.heap.size, 0, none⟩ = some (.int .i64 W) := BC.out.cell 0; have a1 : World.cell? w2 ⟨w.heap.size, 1, none⟩ = some (.slice a hs.length cap) := BC.out.cell 1; have c0 : World.cell? w2 ⟨(w.heap.size + 1), 0, none⟩ = some (.int .i64 te) := BT.out.cell 0; have c1 : World.cell? w2 ⟨(w.heap.size + 1), 1, none⟩ = some (.int .i64 tb) := BT.out.cell 1; have c2 : World.cell? w2 ⟨(w.heap.size + 1), 2, none⟩ = some (.int .i64 td) := BT.out.cell 2; have c3 : World.cell? w2 ⟨(w.heap.size + 1), 3, none⟩ = some (.int .i64 tr) := BT.out.cell 3; have fd : World.cell? w2 ⟨(w.heap.size + 2), 5, none⟩ = some (.int .i64 d) := BF.out.cell 5; clear k1)
    | (go_at_call 143; (with_reducible refine (WKD.out _).mono ?_); rintro z w3 ⟨rfl, rfl⟩)
    | (refine wp_storeV rfl (.tmp 8) (.tmp 41) rfl (w.heap.size + 3) _ _ rfl rfl BR.out rfl rfl (by simp [Value.oneCell']) ?_; intro w9 r9 k9 _; have R9 := Lib.hid r9; have K9 := Lib.hid (k9 _ _ K2.out (by omega)); clear r9 k9))
  exact bodyPost_ret (v := .tuple #[.agg #[.int .i64 0, .int .i64 0, .int .i64 0, .int .i64 0, .int .i64 0, .int .i64 0, .int .i64 0, .int .i64 0, .int .i64 0, .int .i64 0, .int .i64 0, .int .i64 0, .int .i64 0, .int .i64 0], .int .i64 3]) (results_V2 Try.results133 _ _ _ _ _ rfl rfl R9.out rfl) rfl ⟨rfl, K9.out⟩

set_option maxRecDepth 100000 in
set_option maxHeartbeats 4000000 in
theorem look_wl (W te tb td tr i f t c p d u x b y q : Int) (v : Value) (hs : List Int) (w : World) (hr : Reads w v hs) (hf : Fits hs) (E : Int) (h : ctE W hs te tb td tr = 0) (h1 : failE i f t c p d u x b y = 0) (h2 : dayB q = true) (h3 : wlkE W hs d te tb td = E) (h0 : E ≠ 0) :
    Calls Try.prog 133 #[calV W v, .agg #[.int .i64 te, .int .i64 tb, .int .i64 td, .int .i64 tr], .agg #[.int .i64 i, .int .i64 f, .int .i64 t, .int .i64 c, .int .i64 p, .int .i64 d, .int .i64 u, .int .i64 x, .int .i64 b, .int .i64 y], .int .i64 q] w fun z w' => z = .returned (.tuple #[.agg #[.int .i64 0, .int .i64 0, .int .i64 0, .int .i64 0, .int .i64 0, .int .i64 0, .int .i64 0, .int .i64 0, .int .i64 0, .int .i64 0, .int .i64 0, .int .i64 0, .int .i64 0, .int .i64 0], .int .i64 E]) ∧ Kpt w w' := by
  have WKD := Lib.hid (fun w' => wk_ok q (day_t h2).1 (day_t h2).2 w')
  have CT := Lib.hid (fun w' (k : Kpt w w') => ct_run W te tb td tr v hs w' (hr.kpt k) hf)
  have OX := Lib.hid (fun w' => fopenX_run i f t c p d u x b y w')
  have DY := Lib.hid (fun w' (k : Kpt w w') => days_run W d te tb td tr v hs w' (hr.kpt k) hf)
  have K0 : Hid (Kpt w ((((w.alloc (.cells #[.int .i64 W, v] 24)).alloc (.cells #[.int .i64 te, .int .i64 tb, .int .i64 td, .int .i64 tr] 78)).alloc (.cells #[.int .i64 i, .int .i64 f, .int .i64 t, .int .i64 c, .int .i64 p, .int .i64 d, .int .i64 u, .int .i64 x, .int .i64 b, .int .i64 y] 38)).alloc (.cells #[.int .i64 0, .int .i64 0, .int .i64 0, .int .i64 0, .int .i64 0, .int .i64 0, .int .i64 0, .int .i64 0, .int .i64 0, .int .i64 0, .int .i64 0, .int .i64 0, .int .i64 0, .int .i64 0] 159))) := ((((Kpt.refl w).alloc _).alloc _).alloc _).alloc _
  have BC : Hid (Blk ((((w.alloc (.cells #[.int .i64 W, v] 24)).alloc (.cells #[.int .i64 te, .int .i64 tb, .int .i64 td, .int .i64 tr] 78)).alloc (.cells #[.int .i64 i, .int .i64 f, .int .i64 t, .int .i64 c, .int .i64 p, .int .i64 d, .int .i64 u, .int .i64 x, .int .i64 b, .int .i64 y] 38)).alloc (.cells #[.int .i64 0, .int .i64 0, .int .i64 0, .int .i64 0, .int .i64 0, .int .i64 0, .int .i64 0, .int .i64 0, .int .i64 0, .int .i64 0, .int .i64 0, .int .i64 0, .int .i64 0, .int .i64 0] 159)) w.heap.size #[.int .i64 W, v] 24) := (((Blk.made w _ _).alloc _).alloc _).alloc _
  have BT : Hid (Blk ((((w.alloc (.cells #[.int .i64 W, v] 24)).alloc (.cells #[.int .i64 te, .int .i64 tb, .int .i64 td, .int .i64 tr] 78)).alloc (.cells #[.int .i64 i, .int .i64 f, .int .i64 t, .int .i64 c, .int .i64 p, .int .i64 d, .int .i64 u, .int .i64 x, .int .i64 b, .int .i64 y] 38)).alloc (.cells #[.int .i64 0, .int .i64 0, .int .i64 0, .int .i64 0, .int .i64 0, .int .i64 0, .int .i64 0, .int .i64 0, .int .i64 0, .int .i64 0, .int .i64 0, .int .i64 0, .int .i64 0, .int .i64 0] 159)) (w.heap.size + 1) #[.int .i64 te, .int .i64 tb, .int .i64 td, .int .i64 tr] 78) := by
    have := ((Blk.made (w.alloc (.cells #[.int .i64 W, v] 24)) #[.int .i64 te, .int .i64 tb, .int .i64 td, .int .i64 tr] 78).alloc (.cells #[.int .i64 i, .int .i64 f, .int .i64 t, .int .i64 c, .int .i64 p, .int .i64 d, .int .i64 u, .int .i64 x, .int .i64 b, .int .i64 y] 38)).alloc (.cells #[.int .i64 0, .int .i64 0, .int .i64 0, .int .i64 0, .int .i64 0, .int .i64 0, .int .i64 0, .int .i64 0, .int .i64 0, .int .i64 0, .int .i64 0, .int .i64 0, .int .i64 0, .int .i64 0] 159)
    unfold Hid; simpa using this
  have BF : Hid (Blk ((((w.alloc (.cells #[.int .i64 W, v] 24)).alloc (.cells #[.int .i64 te, .int .i64 tb, .int .i64 td, .int .i64 tr] 78)).alloc (.cells #[.int .i64 i, .int .i64 f, .int .i64 t, .int .i64 c, .int .i64 p, .int .i64 d, .int .i64 u, .int .i64 x, .int .i64 b, .int .i64 y] 38)).alloc (.cells #[.int .i64 0, .int .i64 0, .int .i64 0, .int .i64 0, .int .i64 0, .int .i64 0, .int .i64 0, .int .i64 0, .int .i64 0, .int .i64 0, .int .i64 0, .int .i64 0, .int .i64 0, .int .i64 0] 159)) (w.heap.size + 2) #[.int .i64 i, .int .i64 f, .int .i64 t, .int .i64 c, .int .i64 p, .int .i64 d, .int .i64 u, .int .i64 x, .int .i64 b, .int .i64 y] 38) := by
    have := (Blk.made ((w.alloc (.cells #[.int .i64 W, v] 24)).alloc (.cells #[.int .i64 te, .int .i64 tb, .int .i64 td, .int .i64 tr] 78)) #[.int .i64 i, .int .i64 f, .int .i64 t, .int .i64 c, .int .i64 p, .int .i64 d, .int .i64 u, .int .i64 x, .int .i64 b, .int .i64 y] 38).alloc (.cells #[.int .i64 0, .int .i64 0, .int .i64 0, .int .i64 0, .int .i64 0, .int .i64 0, .int .i64 0, .int .i64 0, .int .i64 0, .int .i64 0, .int .i64 0, .int .i64 0, .int .i64 0, .int .i64 0] 159)
    unfold Hid; simpa using this
  have BR : Hid (Blk ((((w.alloc (.cells #[.int .i64 W, v] 24)).alloc (.cells #[.int .i64 te, .int .i64 tb, .int .i64 td, .int .i64 tr] 78)).alloc (.cells #[.int .i64 i, .int .i64 f, .int .i64 t, .int .i64 c, .int .i64 p, .int .i64 d, .int .i64 u, .int .i64 x, .int .i64 b, .int .i64 y] 38)).alloc (.cells #[.int .i64 0, .int .i64 0, .int .i64 0, .int .i64 0, .int .i64 0, .int .i64 0, .int .i64 0, .int .i64 0, .int .i64 0, .int .i64 0, .int .i64 0, .int .i64 0, .int .i64 0, .int .i64 0] 159)) (w.heap.size + 3) #[.int .i64 0, .int .i64 0, .int .i64 0, .int .i64 0, .int .i64 0, .int .i64 0, .int .i64 0, .int .i64 0, .int .i64 0, .int .i64 0, .int .i64 0, .int .i64 0, .int .i64 0, .int .i64 0] 159) := by
    have := Blk.made (((w.alloc (.cells #[.int .i64 W, v] 24)).alloc (.cells #[.int .i64 te, .int .i64 tb, .int .i64 td, .int .i64 tr] 78)).alloc (.cells #[.int .i64 i, .int .i64 f, .int .i64 t, .int .i64 c, .int .i64 p, .int .i64 d, .int .i64 u, .int .i64 x, .int .i64 b, .int .i64 y] 38)) #[.int .i64 0, .int .i64 0, .int .i64 0, .int .i64 0, .int .i64 0, .int .i64 0, .int .i64 0, .int .i64 0, .int .i64 0, .int .i64 0, .int .i64 0, .int .i64 0, .int .i64 0, .int .i64 0] 159
    unfold Hid; simpa using this
  obtain ⟨a, cap, rfl, -⟩ := hr
  unfold calV at *
  rw [h] at CT
  rw [h1] at OX
  have hE : agE W hs te tb td tr d = E := by unfold agE; rw [if_pos h]; exact h3
  rw [hE] at DY
  have z0 : (E != 0) = true := bne_iff_ne.2 h0
  clear h h1 h2 h3 h0 hE
  generalize openV i f t c p d u x b y = o at *
  generalize agD W hs te tb td tr d 1 = g1 at *
  generalize agD W hs te tb td tr d 2 = g2 at *
  generalize agD W hs te tb td tr d 3 = g3 at *
  go_enter Try.func133, Try.ntmps133
  go_wp2_with (first
    | (go_at_call 146; (with_reducible refine (CT.out _ K0.out).mono ?_); rintro z w1 ⟨rfl, k1⟩; have K1 := Lib.hid (ktr K0.out k1); have BC := Lib.hid (BC.out.kpt k1); have BT := Lib.hid (BT.out.kpt k1); have BF := Lib.hid (BF.out.kpt k1); have BR := Lib.hid (BR.out.kpt k1); clear k1)
    | (refine wp_loadF rfl (.tmp 6) rfl (w.heap.size + 2) _ rfl BF.out rfl ?_)
    | (go_at_call 107; (with_reducible refine (OX.out _).mono ?_); rintro z w2 ⟨rfl, k1⟩; have K2 := Lib.hid (ktr K1.out k1); have BC := Lib.hid (BC.out.kpt k1); have BT := Lib.hid (BT.out.kpt k1); have BF := Lib.hid (BF.out.kpt k1); have BR := Lib.hid (BR.out.kpt k1); have a0 : World.cell? w2 ⟨w.heap.size, 0, none⟩ = some (.int .i64 W) := BC.out.cell 0; have a1 : World.cell? w2 ⟨w.heap.size, 1, none⟩ = some (.slice a hs.length cap) := BC.out.cell 1; have c0 : World.cell? w2 ⟨(w.heap.size + 1), 0, none⟩ = some (.int .i64 te) := BT.out.cell 0; have c1 : World.cell? w2 ⟨(w.heap.size + 1), 1, none⟩ = some (.int .i64 tb) := BT.out.cell 1; have c2 : World.cell? w2 ⟨(w.heap.size + 1), 2, none⟩ = some (.int .i64 td) := BT.out.cell 2; have c3 : World.cell? w2 ⟨(w.heap.size + 1), 3, none⟩ = some (.int .i64 tr) := BT.out.cell 3; have fd : World.cell? w2 ⟨(w.heap.size + 2), 5, none⟩ = some (.int .i64 d) := BF.out.cell 5; clear k1)
    | (go_at_call 143; (with_reducible refine (WKD.out _).mono ?_); rintro z w3 ⟨rfl, rfl⟩)
    | (go_at_call 147; (with_reducible refine (DY.out _ K2.out).mono ?_); rintro z w4 ⟨rfl, k1⟩; have K4 := Lib.hid (ktr K2.out k1); have BC := Lib.hid (BC.out.kpt k1); have BT := Lib.hid (BT.out.kpt k1); have BF := Lib.hid (BF.out.kpt k1); have BR := Lib.hid (BR.out.kpt k1); clear k1)
    | (refine wp_storeV rfl (.tmp 8) (.tmp 55) rfl (w.heap.size + 3) _ _ rfl rfl BR.out rfl rfl (by simp [Value.oneCell']) ?_; intro w9 r9 k9 _; have R9 := Lib.hid r9; have K9 := Lib.hid (k9 _ _ K4.out (by omega)); clear r9 k9))
  exact bodyPost_ret (v := .tuple #[.agg #[.int .i64 0, .int .i64 0, .int .i64 0, .int .i64 0, .int .i64 0, .int .i64 0, .int .i64 0, .int .i64 0, .int .i64 0, .int .i64 0, .int .i64 0, .int .i64 0, .int .i64 0, .int .i64 0], .int .i64 E]) (results_V2 Try.results133 _ _ _ _ _ rfl rfl R9.out rfl) rfl ⟨rfl, K9.out⟩

set_option maxRecDepth 100000 in
set_option maxHeartbeats 4000000 in
theorem look_ok (W te tb td tr i f t c p d u x b y q : Int) (v : Value) (hs : List Int) (w : World) (hr : Reads w v hs) (hf : Fits hs) (h : ctE W hs te tb td tr = 0) (h1 : failE i f t c p d u x b y = 0) (h2 : dayB q = true) (h3 : wlkE W hs d te tb td = 0) :
    Calls Try.prog 133 #[calV W v, .agg #[.int .i64 te, .int .i64 tb, .int .i64 td, .int .i64 tr], .agg #[.int .i64 i, .int .i64 f, .int .i64 t, .int .i64 c, .int .i64 p, .int .i64 d, .int .i64 u, .int .i64 x, .int .i64 b, .int .i64 y], .int .i64 q] w fun z w' => z = .returned (.tuple #[.agg #[.int .i64 i, .int .i64 f, .int .i64 t, .int .i64 c, .int .i64 p, .int .i64 d, .int .i64 u, .int .i64 x, .int .i64 b, .int .i64 y, .int .i64 (openV i f t c p d u x b y), .int .i64 (dayAt W hs d te tb td 1), .int .i64 (dayAt W hs d te tb td 2), .int .i64 (dayAt W hs d te tb td 3)], .int .i64 0]) ∧ Kpt w w' := by
  have WKD := Lib.hid (fun w' => wk_ok q (day_t h2).1 (day_t h2).2 w')
  have CT := Lib.hid (fun w' (k : Kpt w w') => ct_run W te tb td tr v hs w' (hr.kpt k) hf)
  have OX := Lib.hid (fun w' => fopenX_run i f t c p d u x b y w')
  have DY := Lib.hid (fun w' (k : Kpt w w') => days_run W d te tb td tr v hs w' (hr.kpt k) hf)
  have K0 : Hid (Kpt w ((((w.alloc (.cells #[.int .i64 W, v] 24)).alloc (.cells #[.int .i64 te, .int .i64 tb, .int .i64 td, .int .i64 tr] 78)).alloc (.cells #[.int .i64 i, .int .i64 f, .int .i64 t, .int .i64 c, .int .i64 p, .int .i64 d, .int .i64 u, .int .i64 x, .int .i64 b, .int .i64 y] 38)).alloc (.cells #[.int .i64 0, .int .i64 0, .int .i64 0, .int .i64 0, .int .i64 0, .int .i64 0, .int .i64 0, .int .i64 0, .int .i64 0, .int .i64 0, .int .i64 0, .int .i64 0, .int .i64 0, .int .i64 0] 159))) := ((((Kpt.refl w).alloc _).alloc _).alloc _).alloc _
  have BC : Hid (Blk ((((w.alloc (.cells #[.int .i64 W, v] 24)).alloc (.cells #[.int .i64 te, .int .i64 tb, .int .i64 td, .int .i64 tr] 78)).alloc (.cells #[.int .i64 i, .int .i64 f, .int .i64 t, .int .i64 c, .int .i64 p, .int .i64 d, .int .i64 u, .int .i64 x, .int .i64 b, .int .i64 y] 38)).alloc (.cells #[.int .i64 0, .int .i64 0, .int .i64 0, .int .i64 0, .int .i64 0, .int .i64 0, .int .i64 0, .int .i64 0, .int .i64 0, .int .i64 0, .int .i64 0, .int .i64 0, .int .i64 0, .int .i64 0] 159)) w.heap.size #[.int .i64 W, v] 24) := (((Blk.made w _ _).alloc _).alloc _).alloc _
  have BT : Hid (Blk ((((w.alloc (.cells #[.int .i64 W, v] 24)).alloc (.cells #[.int .i64 te, .int .i64 tb, .int .i64 td, .int .i64 tr] 78)).alloc (.cells #[.int .i64 i, .int .i64 f, .int .i64 t, .int .i64 c, .int .i64 p, .int .i64 d, .int .i64 u, .int .i64 x, .int .i64 b, .int .i64 y] 38)).alloc (.cells #[.int .i64 0, .int .i64 0, .int .i64 0, .int .i64 0, .int .i64 0, .int .i64 0, .int .i64 0, .int .i64 0, .int .i64 0, .int .i64 0, .int .i64 0, .int .i64 0, .int .i64 0, .int .i64 0] 159)) (w.heap.size + 1) #[.int .i64 te, .int .i64 tb, .int .i64 td, .int .i64 tr] 78) := by
    have := ((Blk.made (w.alloc (.cells #[.int .i64 W, v] 24)) #[.int .i64 te, .int .i64 tb, .int .i64 td, .int .i64 tr] 78).alloc (.cells #[.int .i64 i, .int .i64 f, .int .i64 t, .int .i64 c, .int .i64 p, .int .i64 d, .int .i64 u, .int .i64 x, .int .i64 b, .int .i64 y] 38)).alloc (.cells #[.int .i64 0, .int .i64 0, .int .i64 0, .int .i64 0, .int .i64 0, .int .i64 0, .int .i64 0, .int .i64 0, .int .i64 0, .int .i64 0, .int .i64 0, .int .i64 0, .int .i64 0, .int .i64 0] 159)
    unfold Hid; simpa using this
  have BF : Hid (Blk ((((w.alloc (.cells #[.int .i64 W, v] 24)).alloc (.cells #[.int .i64 te, .int .i64 tb, .int .i64 td, .int .i64 tr] 78)).alloc (.cells #[.int .i64 i, .int .i64 f, .int .i64 t, .int .i64 c, .int .i64 p, .int .i64 d, .int .i64 u, .int .i64 x, .int .i64 b, .int .i64 y] 38)).alloc (.cells #[.int .i64 0, .int .i64 0, .int .i64 0, .int .i64 0, .int .i64 0, .int .i64 0, .int .i64 0, .int .i64 0, .int .i64 0, .int .i64 0, .int .i64 0, .int .i64 0, .int .i64 0, .int .i64 0] 159)) (w.heap.size + 2) #[.int .i64 i, .int .i64 f, .int .i64 t, .int .i64 c, .int .i64 p, .int .i64 d, .int .i64 u, .int .i64 x, .int .i64 b, .int .i64 y] 38) := by
    have := (Blk.made ((w.alloc (.cells #[.int .i64 W, v] 24)).alloc (.cells #[.int .i64 te, .int .i64 tb, .int .i64 td, .int .i64 tr] 78)) #[.int .i64 i, .int .i64 f, .int .i64 t, .int .i64 c, .int .i64 p, .int .i64 d, .int .i64 u, .int .i64 x, .int .i64 b, .int .i64 y] 38).alloc (.cells #[.int .i64 0, .int .i64 0, .int .i64 0, .int .i64 0, .int .i64 0, .int .i64 0, .int .i64 0, .int .i64 0, .int .i64 0, .int .i64 0, .int .i64 0, .int .i64 0, .int .i64 0, .int .i64 0] 159)
    unfold Hid; simpa using this
  have BR : Hid (Blk ((((w.alloc (.cells #[.int .i64 W, v] 24)).alloc (.cells #[.int .i64 te, .int .i64 tb, .int .i64 td, .int .i64 tr] 78)).alloc (.cells #[.int .i64 i, .int .i64 f, .int .i64 t, .int .i64 c, .int .i64 p, .int .i64 d, .int .i64 u, .int .i64 x, .int .i64 b, .int .i64 y] 38)).alloc (.cells #[.int .i64 0, .int .i64 0, .int .i64 0, .int .i64 0, .int .i64 0, .int .i64 0, .int .i64 0, .int .i64 0, .int .i64 0, .int .i64 0, .int .i64 0, .int .i64 0, .int .i64 0, .int .i64 0] 159)) (w.heap.size + 3) #[.int .i64 0, .int .i64 0, .int .i64 0, .int .i64 0, .int .i64 0, .int .i64 0, .int .i64 0, .int .i64 0, .int .i64 0, .int .i64 0, .int .i64 0, .int .i64 0, .int .i64 0, .int .i64 0] 159) := by
    have := Blk.made (((w.alloc (.cells #[.int .i64 W, v] 24)).alloc (.cells #[.int .i64 te, .int .i64 tb, .int .i64 td, .int .i64 tr] 78)).alloc (.cells #[.int .i64 i, .int .i64 f, .int .i64 t, .int .i64 c, .int .i64 p, .int .i64 d, .int .i64 u, .int .i64 x, .int .i64 b, .int .i64 y] 38)) #[.int .i64 0, .int .i64 0, .int .i64 0, .int .i64 0, .int .i64 0, .int .i64 0, .int .i64 0, .int .i64 0, .int .i64 0, .int .i64 0, .int .i64 0, .int .i64 0, .int .i64 0, .int .i64 0] 159
    unfold Hid; simpa using this
  obtain ⟨a, cap, rfl, -⟩ := hr
  unfold calV at *
  rw [h] at CT
  rw [h1] at OX
  have hE : agE W hs te tb td tr d = 0 := by unfold agE; rw [if_pos h]; exact h3
  have hd : ∀ k, agD W hs te tb td tr d k = dayAt W hs d te tb td k := fun k => by unfold agD; rw [if_pos hE]
  rw [hE, hd 1, hd 2, hd 3] at DY
  clear h h1 h2 h3 hE hd
  generalize openV i f t c p d u x b y = o at *
  generalize dayAt W hs d te tb td 1 = g1 at *
  generalize dayAt W hs d te tb td 2 = g2 at *
  generalize dayAt W hs d te tb td 3 = g3 at *
  go_enter Try.func133, Try.ntmps133
  go_wp2_with (first
    | (go_at_call 146; (with_reducible refine (CT.out _ K0.out).mono ?_); rintro z w1 ⟨rfl, k1⟩; have K1 := Lib.hid (ktr K0.out k1); have BC := Lib.hid (BC.out.kpt k1); have BT := Lib.hid (BT.out.kpt k1); have BF := Lib.hid (BF.out.kpt k1); have BR := Lib.hid (BR.out.kpt k1); clear k1)
    | (refine wp_loadF rfl (.tmp 6) rfl (w.heap.size + 2) _ rfl BF.out rfl ?_)
    | (go_at_call 107; (with_reducible refine (OX.out _).mono ?_); rintro z w2 ⟨rfl, k1⟩; have K2 := Lib.hid (ktr K1.out k1); have BC := Lib.hid (BC.out.kpt k1); have BT := Lib.hid (BT.out.kpt k1); have BF := Lib.hid (BF.out.kpt k1); have BR := Lib.hid (BR.out.kpt k1); have a0 : World.cell? w2 ⟨w.heap.size, 0, none⟩ = some (.int .i64 W) := BC.out.cell 0; have a1 : World.cell? w2 ⟨w.heap.size, 1, none⟩ = some (.slice a hs.length cap) := BC.out.cell 1; have c0 : World.cell? w2 ⟨(w.heap.size + 1), 0, none⟩ = some (.int .i64 te) := BT.out.cell 0; have c1 : World.cell? w2 ⟨(w.heap.size + 1), 1, none⟩ = some (.int .i64 tb) := BT.out.cell 1; have c2 : World.cell? w2 ⟨(w.heap.size + 1), 2, none⟩ = some (.int .i64 td) := BT.out.cell 2; have c3 : World.cell? w2 ⟨(w.heap.size + 1), 3, none⟩ = some (.int .i64 tr) := BT.out.cell 3; have fd : World.cell? w2 ⟨(w.heap.size + 2), 5, none⟩ = some (.int .i64 d) := BF.out.cell 5; clear k1)
    | (go_at_call 143; (with_reducible refine (WKD.out _).mono ?_); rintro z w3 ⟨rfl, rfl⟩)
    | (go_at_call 147; (with_reducible refine (DY.out _ K2.out).mono ?_); rintro z w4 ⟨rfl, k1⟩; have K4 := Lib.hid (ktr K2.out k1); have BC := Lib.hid (BC.out.kpt k1); have BT := Lib.hid (BT.out.kpt k1); have BF := Lib.hid (BF.out.kpt k1); have BR := Lib.hid (BR.out.kpt k1); clear k1)
    | (refine wp_storeV rfl (.tmp 8) (.tmp 62) rfl (w.heap.size + 3) _ _ rfl rfl BR.out rfl rfl (by simp [Value.oneCell']) ?_; intro w9 r9 k9 _; have R9 := Lib.hid r9; have K9 := Lib.hid (k9 _ _ K4.out (by omega)); clear r9 k9))
  exact bodyPost_ret (v := .tuple #[.agg #[.int .i64 i, .int .i64 f, .int .i64 t, .int .i64 c, .int .i64 p, .int .i64 d, .int .i64 u, .int .i64 x, .int .i64 b, .int .i64 y, .int .i64 o, .int .i64 g1, .int .i64 g2, .int .i64 g3], .int .i64 0]) (results_V2 Try.results133 _ _ _ _ _ rfl rfl R9.out rfl) rfl ⟨rfl, K9.out⟩

end Go.Proofs.Ytgccipmeiceonaa
