/-
  Merged: ClmR, ClmF.
-/
import Derived.Sort.BigQuietIn
import Derived.RangeFuncWrites
import Derived.Shelf.RegionOpen
import Derived.OwnWalkIn
import Derived.Test.YtgccipmeiceonaaKept
import Derived.Test.YtgccipmeiceonaaMk19
-- ClmR
namespace Go.Proofs.Ytgccipmeiceonaa
open Go.RowKit Go.Shelf
set_option linter.unusedVariables false

/-- an operation that is no defer statement -/
def noDefer (o : Oper) : Bool := match o.op with | .defer _ => false | _ => true
theorem noDefer_ne {o : Oper} (h : noDefer o = true) : ∀ c, o.op ≠ .defer c := fun c e => by unfold noDefer at h; rw [e] at h; cases h
theorem wpIn_opRound {F : Fence} {n l : Nat} {P : Program} {o : Oper} {a : Act} {w : World} {K : Act → World → Prop} {Q : Exit → Act → World → Prop} (hd : noDefer o = true) (h : o.wpIn F n P a w K Q) : o.wpIn (F.inRound l) n P a w K Q := by
  unfold Oper.wpIn at h ⊢
  refine ⟨h.1, ?_⟩
  have h2 := h.2
  rw [Oper.semAt_plain F _ _ (noDefer_ne hd)] at h2
  rw [Oper.semAt_plain (F.inRound l) _ _ (noDefer_ne hd)]
  exact h2
theorem wpAnyIn_round {F : Fence} {n l : Nat} {P : Program} {md : Region.Mode} {ops : Array Oper} {Q : Exit → Act → World → Prop} (hd : ∀ (i : Nat) (o : Oper), ops[i]? = some o → noDefer o = true) : ∀ (fuel : Nat) (listed : Array Bool) (a : Act) (w : World), wpAnyIn F n P md ops Q fuel listed a w → wpAnyIn (F.inRound l) n P md ops Q fuel listed a w
  | 0, _, _, _, h => h
  | fuel + 1, listed, a, w, h => by
    have ih := wpAnyIn_round (F := F) (n := n) (l := l) (P := P) (md := md) (Q := Q) hd fuel
    refine ⟨h.1, fun i hi => ?_⟩
    have h2 := h.2 i hi
    unfold wpOpIn at h2 ⊢
    split
    · next ho => simp only [ho] at h2; exact ih _ _ _ h2
    · next o ho =>
      simp only [ho] at h2
      split
      · next hw =>
        simp only [hw, if_true] at h2
        exact wpIn_opRound (hd i o ho) (Oper.wpIn_mono (fun a' w' => ih _ a' w') h2)
      · next hw =>
        simp only [hw] at h2
        exact ⟨h2.1, ih _ _ _ h2.2⟩
/-- a region that draws and only reads, in a round: one walk, in the text's order -/
theorem wpIn_region_quiet_round {F : Fence} {n l : Nat} {P : Program} {id : Nat} {Q : Exit → Act → World → Prop} {a : Act} {w : World} {ops : List Oper} (hro : F.round = none) (hnd : ops.all noDefer = true) (hm : P.follows .mixedOrders = true) (hB : Region.lexB .any ops.toArray = true)
    (h : wpQuietIn F n P ops.toArray (fun w' => ∃ k, w' = w.drewN k) (fun a' => ∀ w', (∃ k, w' = w.drewN k) → Q .normal a' w') ops a) : (Code.region id ops.toArray true).wpIn (F.inRound l) n P Q a w := by
  simp only [Region.lexB, Bool.and_eq_true] at hB
  refine wpIn_region_any hm (wpAnyIn_round (fun i o ho => ?_) _ _ _ _ (wpAnyIn_of_quiet (C := fun w' => ∃ k, w' = w.drewN k) (Q := fun a' => ∀ w', (∃ k, w' = w.drewN k) → Q .normal a' w') hro (fun _ w' hw' h => h w' hw') _ _ _ _ ⟨1, rfl⟩ ?_))
  · exact List.all_eq_true.1 hnd o (List.mem_of_getElem? (by simpa using ho))
  · have := wpAnyQIn_lex (F := F) (n := n) (C := fun w' => ∃ k, w' = w.drewN k) (md := .any) hB.1 ops 0 (Array.replicate ops.toArray.size false) a (by simp) (by simpa using hB.2) h
    simpa using this

theorem kpt_drewN (w : World) (k : Nat) : Kpt w (w.drewN k) := Kpt.drewN (Kpt.refl w) k

end Go.Proofs.Ytgccipmeiceonaa

-- ClmF
namespace Go.Proofs.Ytgccipmeiceonaa
open Go.RowKit Go.Shelf
set_option linter.unusedVariables false
attribute [local go_sem] Oper.semAt_some

/-- what a round of Claims finds -/
def CI (n0 b : Nat) (ev : Array Value) (sl : Value) (P C G O : Int) (fs : List (List Int)) (w : World) (pre : List (Fin fs.length)) (W : World) : Prop :=
  (∃ dv pv, Blk W b #[dv] 30 ∧ Blk W (b + 1) #[pv] 39 ∧ Blk W (b + 2) ev 53 ∧ Blk W (n0 + 1) #[sl] 26 ∧ OwnsT 80 W n0 dv (duesOf C fs pre) ∧ OwnsT 94 W n0 pv (pstsOf P G O fs pre)) ∧ Below n0 w W
theorem hoN_bd {G O U : Int} (hu : 0 ≤ U ∧ U ≤ 1073741824) (hg : 0 ≤ G ∧ G ≤ 1000) (ho : 0 ≤ O) : 0 ≤ hoN G O U ∧ hoN G O U ≤ 1073741824000 := by
  unfold hoN
  split
  · omega
  · have h1 : U * G ≤ 1073741824 * 1000 := Int.mul_le_mul hu.2 hg.2 hg.1 (by decide)
    have h0 : 0 ≤ U * G := Int.mul_nonneg hu.1 hg.1
    exact ⟨Int.ediv_nonneg h0 ho, Int.le_trans (Int.ediv_le_self _ h0) (by omega)⟩

set_option maxRecDepth 100000 in
set_option maxHeartbeats 4000000 in
theorem claims_ok (P C G O : Int) (a : Option Addr) (cap : Nat) (fs : List (List Int)) (w : World) (hr : ReadsF w (.slice a fs.length cap) fs) (h : cwE P C G O fs = 0) : Calls Try.prog 37 #[.agg #[.int .i64 P, .int .i64 C, .int .i64 G, .int .i64 O], .slice a fs.length cap] w fun e w' => ∃ dv pv, e = .returned (.tuple #[dv, pv, .int .i64 0]) ∧ OwnsT 80 w' w.heap.size dv (duesOf C fs (hit P fs fs.length)) ∧ OwnsT 94 w' w.heap.size pv (pstsOf P G O fs (hit P fs fs.length)) ∧ Kpt w w' := by
  obtain ⟨h1', h2⟩ := cwE_0 h
  have h60 := checks_60 h2
  have KA : Hid (Kpt w ((w.alloc (.cells #[.int .i64 P, .int .i64 C, .int .i64 G, .int .i64 O] 53)).alloc (.cells #[.slice a fs.length cap] 26))) := ((Kpt.refl w).alloc _).alloc _
  have BE : Hid (Blk ((w.alloc (.cells #[.int .i64 P, .int .i64 C, .int .i64 G, .int .i64 O] 53)).alloc (.cells #[.slice a fs.length cap] 26)) w.heap.size #[.int .i64 P, .int .i64 C, .int .i64 G, .int .i64 O] 53) := (Blk.made w _ _).alloc _
  have BF : Hid (Boxed ((w.alloc (.cells #[.int .i64 P, .int .i64 C, .int .i64 G, .int .i64 O] 53)).alloc (.cells #[.slice a fs.length cap] 26)) (w.heap.size + 1) 26 (.slice a fs.length cap)) := by
    have := Boxed.new (w.alloc (.cells #[.int .i64 P, .int .i64 C, .int .i64 G, .int .i64 O] 53)) 26 (.slice a fs.length cap)
    rwa [World.size_alloc] at this
  have CW := Lib.hid (fun w' (k : Kpt w w') => checkWith_any P C G O _ fs w' (hr.kpt k))
  rw [h] at CW
  have HR := Lib.hid hr
  obtain ⟨a', cap', e, hm, -, hcl⟩ := hr
  injection e with e1 _ e3
  subst e1 e3
  have HC := Lib.hid hcl
  clear hcl h h2
  unfold maxLen at hm
  refine (callsIn_wide (n := 3)).1 ?_
  refine callsIn_of_wp_marks Try.func37 rfl trivial ?_ rfl
  simp only [Try.ntmps37, List.size_toArray, List.length_cons, List.length_nil, Nat.reduceAdd, Nat.reduceSub, Array.replicate_succ, Array.replicate_zero, List.push_toArray, List.append_toArray, List.nil_append, List.cons_append]
  gi_wp2_with (first
    | (refine ⟨trivial, ?_⟩; gi_at_call 93; (with_reducible refine (callsIn_wide.2 (CW.out _ KA.out)).mono ?_); rintro e w1 ⟨rfl, k1⟩; have K1 := Lib.hid (ktr KA.out k1); have B1 := Lib.hid (BE.out.kpt k1); have b0 : World.cell? w1 ⟨w.heap.size, 0, none⟩ = some (.int .i64 P) := B1.out.cell 0; have b1 : World.cell? w1 ⟨w.heap.size, 1, none⟩ = some (.int .i64 C) := B1.out.cell 1; have b2 : World.cell? w1 ⟨w.heap.size, 2, none⟩ = some (.int .i64 G) := B1.out.cell 2; have b3 : World.cell? w1 ⟨w.heap.size, 3, none⟩ = some (.int .i64 O) := B1.out.cell 3; have F1 : Hid (Boxed w1 (w.heap.size + 1) 26 (.slice a fs.length cap)) := Blk.kpt BF.out k1; have f1 := F1.out.cell; have BX := Lib.hid ((B1.out.alloc (.cells #[.slice none 0 0] 30)).alloc (.cells #[.slice none 0 0] 39)); have x0 : World.cell? ((w1.alloc (.cells #[.slice none 0 0] 30)).alloc (.cells #[.slice none 0 0] 39)) ⟨w.heap.size, 0, none⟩ = some (.int .i64 P) := BX.out.cell 0; have x1 : World.cell? ((w1.alloc (.cells #[.slice none 0 0] 30)).alloc (.cells #[.slice none 0 0] 39)) ⟨w.heap.size, 1, none⟩ = some (.int .i64 C) := BX.out.cell 1; have x2 : World.cell? ((w1.alloc (.cells #[.slice none 0 0] 30)).alloc (.cells #[.slice none 0 0] 39)) ⟨w.heap.size, 2, none⟩ = some (.int .i64 G) := BX.out.cell 2; have x3 : World.cell? ((w1.alloc (.cells #[.slice none 0 0] 30)).alloc (.cells #[.slice none 0 0] 39)) ⟨w.heap.size, 3, none⟩ = some (.int .i64 O) := BX.out.cell 3; have FX : Hid (Boxed ((w1.alloc (.cells #[.slice none 0 0] 30)).alloc (.cells #[.slice none 0 0] 39)) (w.heap.size + 1) 26 (.slice a fs.length cap)) := Lib.hid ((F1.out.alloc _).alloc _); have fx := FX.out.cell; have s1 : w.heap.size + 2 ≤ w1.heap.size := (by have := Below.size k1; simp at this; omega); clear k1)
    | (refine ⟨trivial, ?_⟩; gi_at_call 94; (with_reducible refine (callsIn_wide.2 (holdings_run _ _ _ _ _ _ _ _)).mono ?_); rintro e w' ⟨rfl, rfl⟩))
  obtain ⟨w3, hw3⟩ : ∃ w3, ((((w1.alloc (.cells #[.slice none 0 0] 30)).alloc (.cells #[.slice none 0 0] 39)).alloc (.cells #[.int .i64 P, .int .i64 C, .int .i64 G, .int .i64 O] 53)).alloc (.cells #[.slice a fs.length cap] 26)) = w3 := ⟨_, rfl⟩
  have k13 : Kpt w1 w3 := by rw [← hw3]; exact ((((Kpt.refl w1).alloc _).alloc _).alloc _).alloc _
  have sz : w3.heap.size = w1.heap.size + 4 := by rw [← hw3]; simp
  have k3 : Below w.heap.size w w3 := ktr K1.out k13
  have bD : Boxed w3 w1.heap.size 30 (.slice none 0 0) := by rw [← hw3]; exact (((Boxed.new w1 _ _).alloc _).alloc _).alloc _
  have bP : Boxed w3 (w1.heap.size + 1) 39 (.slice none 0 0) := by
    rw [← hw3]
    have := Boxed.new (w1.alloc (.cells #[.slice none 0 0] 30)) 39 (.slice none 0 0)
    rw [World.size_alloc] at this
    exact (this.alloc _).alloc _
  have bE : Blk w3 (w1.heap.size + 2) #[.int .i64 P, .int .i64 C, .int .i64 G, .int .i64 O] 53 := by
    rw [← hw3]
    have := Blk.made ((w1.alloc (.cells #[.slice none 0 0] 30)).alloc (.cells #[.slice none 0 0] 39)) #[.int .i64 P, .int .i64 C, .int .i64 G, .int .i64 O] 53
    rw [World.size_alloc, World.size_alloc] at this
    exact this.alloc _
  have bF : Boxed w3 (w1.heap.size + 3) 26 (.slice a fs.length cap) := by
    rw [← hw3]
    have := Boxed.new (((w1.alloc (.cells #[.slice none 0 0] 30)).alloc (.cells #[.slice none 0 0] 39)).alloc (.cells #[.int .i64 P, .int .i64 C, .int .i64 G, .int .i64 O] 53)) 26 (.slice a fs.length cap)
    rwa [World.size_alloc, World.size_alloc, World.size_alloc] at this
  have bG : Boxed w3 (w.heap.size + 1) 26 (.slice a fs.length cap) := Blk.kpt F1.out k13
  have ST := hold_stops 2 (by omega) w.heap.size w w3 rfl P C G O _ fs (w1.heap.size + 3) (w1.heap.size + 2) HR.out k3 bF.cell bE
  rw [hw3]
  clear hw3 KA BE BF CW B1 b0 b1 b2 b3 F1 f1 BX FX fx x0 x1 x2 x3 K1 k13
  refine wpIn_rangeFunc_ownH rfl (by omega) (gf := 125) (lb := #[.pointer (some ⟨w1.heap.size + 3, 0, none⟩), .pointer (some ⟨w1.heap.size + 2, 0, none⟩)]) rfl trivial (enters_of Try.func125 (by kernel_rfl) rfl)
    ST KpC.t (KpC.b (by omega) (by omega)) (Below.refl _ _) (fun _ => rfl)
    (CI w.heap.size w1.heap.size #[.int .i64 P, .int .i64 C, .int .i64 G, .int .i64 O] (.slice a fs.length cap) P C G O fs w) (fun _ _ _ => False)
    (OwnFrom.and (Own.from (fun s A B row hs hg hr => by obtain ⟨dv, pv, h1, h2, h3, h4, h5, h6⟩ := hs; exact ⟨dv, pv, h1.own hg hr, h2.own hg hr, h3.own hg hr, h4.own hg hr, h5.own hg hr, h6.own hg hr⟩) _) (ownFrom_below (Nat.le_refl _) (by omega)))
    (fun _ _ _ _ _ hs _ _ => hs)
    ⟨⟨_, _, bD, bP, bE, bG, OwnsT.nil _ _ _, OwnsT.nil _ _ _⟩, k3⟩
    (fun x a' W => ∃ q, w1.heap.size + 2 < q ∧ a' = { tmps := #[.agg #[.int .i64 P, .int .i64 C, .int .i64 G, .int .i64 O], .slice a fs.length cap, .pointer (some ⟨w.heap.size, 0, none⟩), .pointer (some ⟨w.heap.size + 1, 0, none⟩), .slice none 0 0, .slice none 0 0, .int .i64 0, .int .i64 0, .pointer (some ⟨w1.heap.size, 0, none⟩), .pointer (some ⟨w1.heap.size + 1, 0, none⟩), .int .i64 ((x.1 : Nat) : Int), .pointer (some ⟨q, 0, none⟩), undef, undef, undef, undef, undef, .agg #[.int .i64 P, .int .i64 C, .int .i64 G, .int .i64 O], .slice a fs.length cap, .int .i64 0, .int .i64 0, .bool false, undef, .agg #[.int .i64 P, .int .i64 C, .int .i64 G, .int .i64 O], .slice a fs.length cap, .func (.func 125) #[] #[.pointer (some ⟨w1.heap.size + 3, 0, none⟩), .pointer (some ⟨w1.heap.size + 2, 0, none⟩)], .int .i64 ((x.1 : Nat) : Int), .agg #[.int .i64 P, .int .i64 C, .int .i64 G, .int .i64 O, .int .i64 (openL (fs.getD x.1 []))], undef, undef, undef, undef, undef, undef, undef, undef, undef, undef, undef, undef, undef, undef, undef, undef, undef, undef, undef, undef, undef, undef, undef, undef, undef, undef, undef, undef, undef, undef, undef, undef, undef, undef, undef, undef, undef, undef, undef, undef, undef, undef, undef, undef, undef, undef], defers := [] } ∧ Blk W q #[.int .i64 P, .int .i64 C, .int .i64 G, .int .i64 O, .int .i64 (openL (fs.getD x.1 []))] 116)
    (fun x a' => Own.from (fun s A B row hs hg hr => by obtain ⟨q, h1, h2, h3⟩ := hs; exact ⟨q, h1, h2, h3.own hg hr⟩) _)
    ?assign ?body ?done ?stop
  case assign =>
    clear bD bP bE bF bG k3 ST
    rintro l pre x W K ⟨⟨dv, pv, h1, h2, h3, h4, h5, h6⟩, hB⟩ hK
    have ZH : Hid (Blk (W.alloc (.cells #[.int .i64 0, .int .i64 0, .int .i64 0, .int .i64 0, .int .i64 0] 116)) W.heap.size #[.int .i64 0, .int .i64 0, .int .i64 0, .int .i64 0, .int .i64 0] 116) := Blk.made _ _ _
    have KZ : Hid (Kpt W (W.alloc (.cells #[.int .i64 0, .int .i64 0, .int .i64 0, .int .i64 0, .int .i64 0] 116))) := (Kpt.refl W).alloc _
    have hq := h3.lt
    generalize openL (fs.getD x.1 []) = U at hK ⊢
    gi_wp2_with (refine wpIn_storeH rfl (.tmp 11) (.tmp 27) rfl W.heap.size _ _ rfl rfl ZH.out rfl rfl (by simp [Value.oneCell']) ?_; intro w9 r9 k9 o9; have R9 := Lib.hid r9; have K9 : Hid (Kpt W w9) := Lib.hid (k9 _ _ KZ.out (Nat.le_refl _)); clear r9 k9 o9)
    exact hK _ _ ((kothers K9.out).from _) ⟨Below.mono K9.out hB.size, Below.block K9.out _ hq⟩ ⟨⟨dv, pv, h1.kpt K9.out, h2.kpt K9.out, h3.kpt K9.out, h4.kpt K9.out, h5.kpt K9.out, h6.kpt K9.out⟩, hB.trans (Below.mono K9.out hB.size)⟩ ⟨_, hq, rfl, R9.out⟩
  case body =>
    clear bD bP bE bF bG k3 ST
    rintro l pre x a' W hl - ⟨⟨dv, pv, h1, h2, h3, h4, h5, h6⟩, hB⟩ ⟨q, hq, rfl, h7⟩ hlen
    have S0 : Hid (CS w.heap.size w1.heap.size q #[.int .i64 P, .int .i64 C, .int .i64 G, .int .i64 O] #[.int .i64 P, .int .i64 C, .int .i64 G, .int .i64 O, .int .i64 (openL (fs.getD x.1 []))] (.slice a fs.length cap) W dv (duesOf C fs pre) pv (pstsOf P G O fs pre)) := ⟨h1, h2, h3, h4, h7, h5, h6⟩
    have LD : Hid ((duesOf C fs pre).length ≤ 60) := by unfold Hid; have := duesOf_len C fs pre; omega
    have LP : Hid ((pstsOf P G O fs pre).length ≤ 120) := by unfold Hid; have := pstsOf_len P G O fs pre; omega
    obtain ⟨g, off, rfl, hfl⟩ := HC.out x.1 x.2
    have hf := hfl.kpt hB
    have f0 : W.cell? ⟨w.heap.size + 1, 0, none⟩ = some (.slice (some ⟨g, off, none⟩) fs.length cap) := h4.cell 0
    have c1 : W.cell? ⟨g, off + x.1 * 10 + 1, none⟩ = _ := hf 1 (by omega)
    have c2 : W.cell? ⟨g, off + x.1 * 10 + 2, none⟩ = _ := hf 2 (by omega)
    have HI : Hid (∀ W' dv' pv', CS w.heap.size w1.heap.size q #[.int .i64 P, .int .i64 C, .int .i64 G, .int .i64 O] #[.int .i64 P, .int .i64 C, .int .i64 G, .int .i64 O, .int .i64 (openL (fs.getD x.1 []))] (.slice (some ⟨g, off, none⟩) fs.length cap) W' dv' (duesOf C fs pre ++ dueL C (fs.getD x.1 [])) pv' (pstsOf P G O fs pre ++ pstL P G O (fs.getD x.1 [])) → Stp w.heap.size w1.heap.size W W' → KeepsFrom w3.heap.size W W' ∧ KpC w.heap.size (w1.heap.size + 2) W W' ∧ CI w.heap.size w1.heap.size #[.int .i64 P, .int .i64 C, .int .i64 G, .int .i64 O] (.slice (some ⟨g, off, none⟩) fs.length cap) P C G O fs w (pre ++ [x]) W') := by
      intro W' dv' pv' hs ht
      refine ⟨ht.1.from _, ⟨ht.2, hs.be.trans h3.symm⟩, ⟨dv', pv', hs.bd, hs.bp, hs.be, hs.bf, ?_, ?_⟩, hB.trans ht.2⟩
      · rw [duesOf_s]; exact hs.od
      · rw [pstsOf_s]; exact hs.op
    have hU : 0 ≤ openL (fs.getD x.1 []) ∧ openL (fs.getD x.1 []) ≤ 1073741824 := openV_bd _ _ _ _ _ _ _ _ _ _
    obtain ⟨-, hC, hG, hO, -⟩ := evE_0 h1'
    have hN := hoN_bd hU hG hO.1
    have CA := Lib.hid (fun w => hcash_run P C G O (openL (fs.getD x.1 [])) hC hU w)
    have FA := Lib.hid (fun w => hfresh_run P C G O (openL (fs.getD x.1 [])) hG hO hU w)
    have i0 : (0 : Int) ≤ (x.1 : Int) := by omega
    have i1 : (x.1 : Int) < (fs.length : Int) := by have := x.2; omega
    unfold dueL pstL at HI
    have hmx : Try.prog.follows .mixedOrders = true := by kernel_rfl
    clear h1 h2 h3 h4 h5 h6 h7 hf hfl hB hU hC hG hO
    generalize x.1 = k at *
    generalize openL (fs.getD k []) = U at *
    generalize (fs.getD k []).getD 1 0 = F at *
    generalize (fs.getD k []).getD 2 0 = T at *
    generalize hoC C U = X at *
    generalize hoN G O U = N at *
    generalize hoR G O U = R at *
    have m1 : IntKind.i64.wrap (-N) = -N := IntWalk.i64_in _ (by omega)
    gi_wp2
    refine wpIn_region_quiet_round (F := Fence.wide) rfl (by kernel_rfl) hmx (by kernel_rfl) ?_
    repeat (gi_big_quiet_step (fail))
    refine wpQuietIn_nil ?_
    intro W1 hw1
    have KW : Hid (Kpt W W1) := by obtain ⟨nq, rfl⟩ := hw1; exact kpt_drewN _ _
    have T1 : Hid (Stp w.heap.size w1.heap.size W W1) := Stp.of KW.out (by have := S0.out.bd.lt; omega)
    have S1 := Lib.hid (S0.out.kpt KW.out)
    clear hw1 KW S0
    clear f0 c1 c2
    by_cases hX : 0 < X
    · rw [if_pos hX] at HI
      have X0 : decide ((0 : Int) < X) = true := decide_eq_true hX
      by_cases hN0 : 0 < N
      · rw [if_pos hN0] at HI
        have N0 : decide ((0 : Int) < N) = true := decide_eq_true hN0
        gi_wp2_with (first
          | (refine wpIn_loadH rfl (.tmp 11) rfl q _ rfl S3.out.bh rfl ?_)
          | (refine wpIn_loadH rfl (.tmp 11) rfl q _ rfl S1.out.bh rfl ?_)
          | (refine ⟨trivial, ?_⟩; gi_at_call 91; refine (CallsIn.inRound l (callsIn_wide.2 (CA.out _))).mono ?_; rintro e w2 ⟨rfl, k2⟩; have S2 := Lib.hid (S1.out.kpt k2); have T2 := Lib.hid (T1.out.t (Stp.of k2 (by have := S1.out.bd.lt; omega))); have d0 : World.cell? w2 ⟨w1.heap.size, 0, none⟩ = some dv := S2.out.bd.cell 0; clear k2)
          | (gi_at_builtin; refine wpIn_appendDu rfl _ _ rfl w.heap.size dv _ [(F, T, X)] _ w2.heap.size 1 _ _ rfl (S2.out.od.alloc _) rfl (Blk.made _ _ _) rfl (by have := LD.out; simp; omega) (by have := S2.out.bd.lt; simp; omega) ?_; intro v3 w3 o3 g3; obtain ⟨a3, n3, p3, rfl, -⟩ := OwnsT.formN o3; obtain ⟨d3, z3, t3⟩ := S2.out.addD (by omega) (by omega) o3 g3; have S3 := Lib.hid z3; have T3 := Lib.hid (T2.out.t t3); have hc1 := d3.cell; have hf1 := d3.frozen; clear z3 t3 o3 g3)
          | (refine ⟨trivial, ?_⟩; gi_at_call 92; refine (CallsIn.inRound l (callsIn_wide.2 (FA.out _))).mono ?_; rintro e w4 ⟨rfl, k4⟩; have S4 := Lib.hid (S3.out.kpt k4); have T4 := Lib.hid (T3.out.t (Stp.of k4 (by have := S3.out.bd.lt; omega))); have p0 : World.cell? w4 ⟨w1.heap.size + 1, 0, none⟩ = some pv := S4.out.bp.cell 0; have q0 : World.cell? w4 ⟨q, 0, none⟩ = some (.int .i64 P) := S4.out.bh.cell 0; clear k4)
          | (gi_at_builtin; refine wpIn_appendPs rfl _ _ rfl w.heap.size pv _ [(F, P, -N), (T, P, N)] _ w4.heap.size 2 _ _ rfl (S4.out.op.alloc _) rfl (Blk.made _ _ _) rfl (by have := LP.out; simp; omega) (by have := S4.out.bd.lt; simp; omega) ?_; intro v5 w5 o5 g5; obtain ⟨a5, n5, p5, rfl, -⟩ := OwnsT.formN o5; obtain ⟨d5, z5, t5⟩ := S4.out.addP (by omega) (by omega) o5 g5; have S5 := Lib.hid z5; have T5 := Lib.hid (T4.out.t t5); have hc5 := d5.cell; have hf5 := d5.frozen; clear z5 t5 o5 g5))
        exact HI.out _ _ _ S5.out T5.out
      · rw [if_neg hN0, List.append_nil] at HI
        have N0 : decide ((0 : Int) < N) = false := decide_eq_false hN0
        gi_wp2_with (first
          | (refine wpIn_loadH rfl (.tmp 11) rfl q _ rfl S3.out.bh rfl ?_)
          | (refine wpIn_loadH rfl (.tmp 11) rfl q _ rfl S1.out.bh rfl ?_)
          | (refine ⟨trivial, ?_⟩; gi_at_call 91; refine (CallsIn.inRound l (callsIn_wide.2 (CA.out _))).mono ?_; rintro e w2 ⟨rfl, k2⟩; have S2 := Lib.hid (S1.out.kpt k2); have T2 := Lib.hid (T1.out.t (Stp.of k2 (by have := S1.out.bd.lt; omega))); have d0 : World.cell? w2 ⟨w1.heap.size, 0, none⟩ = some dv := S2.out.bd.cell 0; clear k2)
          | (gi_at_builtin; refine wpIn_appendDu rfl _ _ rfl w.heap.size dv _ [(F, T, X)] _ w2.heap.size 1 _ _ rfl (S2.out.od.alloc _) rfl (Blk.made _ _ _) rfl (by have := LD.out; simp; omega) (by have := S2.out.bd.lt; simp; omega) ?_; intro v3 w3 o3 g3; obtain ⟨a3, n3, p3, rfl, -⟩ := OwnsT.formN o3; obtain ⟨d3, z3, t3⟩ := S2.out.addD (by omega) (by omega) o3 g3; have S3 := Lib.hid z3; have T3 := Lib.hid (T2.out.t t3); have hc1 := d3.cell; have hf1 := d3.frozen; clear z3 t3 o3 g3)
          | (refine ⟨trivial, ?_⟩; gi_at_call 92; refine (CallsIn.inRound l (callsIn_wide.2 (FA.out _))).mono ?_; rintro e w4 ⟨rfl, k4⟩; have S4 := Lib.hid (S3.out.kpt k4); have T4 := Lib.hid (T3.out.t (Stp.of k4 (by have := S3.out.bd.lt; omega))); have p0 : World.cell? w4 ⟨w1.heap.size + 1, 0, none⟩ = some pv := S4.out.bp.cell 0; have q0 : World.cell? w4 ⟨q, 0, none⟩ = some (.int .i64 P) := S4.out.bh.cell 0; clear k4))
        exact HI.out _ _ _ S4.out T4.out
    · rw [if_neg hX, List.append_nil] at HI
      have X0 : decide ((0 : Int) < X) = false := decide_eq_false hX
      by_cases hN0 : 0 < N
      · rw [if_pos hN0] at HI
        have N0 : decide ((0 : Int) < N) = true := decide_eq_true hN0
        gi_wp2_with (first
          | (refine wpIn_loadH rfl (.tmp 11) rfl q _ rfl S2.out.bh rfl ?_)
          | (refine wpIn_loadH rfl (.tmp 11) rfl q _ rfl S1.out.bh rfl ?_)
          | (refine ⟨trivial, ?_⟩; gi_at_call 91; refine (CallsIn.inRound l (callsIn_wide.2 (CA.out _))).mono ?_; rintro e w2 ⟨rfl, k2⟩; have S2 := Lib.hid (S1.out.kpt k2); have T2 := Lib.hid (T1.out.t (Stp.of k2 (by have := S1.out.bd.lt; omega))); have d0 : World.cell? w2 ⟨w1.heap.size, 0, none⟩ = some dv := S2.out.bd.cell 0; clear k2)
          | (refine ⟨trivial, ?_⟩; gi_at_call 92; refine (CallsIn.inRound l (callsIn_wide.2 (FA.out _))).mono ?_; rintro e w4 ⟨rfl, k4⟩; have S4 := Lib.hid (S2.out.kpt k4); have T4 := Lib.hid (T2.out.t (Stp.of k4 (by have := S2.out.bd.lt; omega))); have p0 : World.cell? w4 ⟨w1.heap.size + 1, 0, none⟩ = some pv := S4.out.bp.cell 0; have q0 : World.cell? w4 ⟨q, 0, none⟩ = some (.int .i64 P) := S4.out.bh.cell 0; clear k4)
          | (gi_at_builtin; refine wpIn_appendPs rfl _ _ rfl w.heap.size pv _ [(F, P, -N), (T, P, N)] _ w4.heap.size 2 _ _ rfl (S4.out.op.alloc _) rfl (Blk.made _ _ _) rfl (by have := LP.out; simp; omega) (by have := S4.out.bd.lt; simp; omega) ?_; intro v5 w5 o5 g5; obtain ⟨a5, n5, p5, rfl, -⟩ := OwnsT.formN o5; obtain ⟨d5, z5, t5⟩ := S4.out.addP (by omega) (by omega) o5 g5; have S5 := Lib.hid z5; have T5 := Lib.hid (T4.out.t t5); have hc5 := d5.cell; have hf5 := d5.frozen; clear z5 t5 o5 g5))
        exact HI.out _ _ _ S5.out T5.out
      · rw [if_neg hN0, List.append_nil] at HI
        have N0 : decide ((0 : Int) < N) = false := decide_eq_false hN0
        gi_wp2_with (first
          | (refine wpIn_loadH rfl (.tmp 11) rfl q _ rfl S2.out.bh rfl ?_)
          | (refine wpIn_loadH rfl (.tmp 11) rfl q _ rfl S1.out.bh rfl ?_)
          | (refine ⟨trivial, ?_⟩; gi_at_call 91; refine (CallsIn.inRound l (callsIn_wide.2 (CA.out _))).mono ?_; rintro e w2 ⟨rfl, k2⟩; have S2 := Lib.hid (S1.out.kpt k2); have T2 := Lib.hid (T1.out.t (Stp.of k2 (by have := S1.out.bd.lt; omega))); have d0 : World.cell? w2 ⟨w1.heap.size, 0, none⟩ = some dv := S2.out.bd.cell 0; clear k2)
          | (refine ⟨trivial, ?_⟩; gi_at_call 92; refine (CallsIn.inRound l (callsIn_wide.2 (FA.out _))).mono ?_; rintro e w4 ⟨rfl, k4⟩; have S4 := Lib.hid (S2.out.kpt k4); have T4 := Lib.hid (T2.out.t (Stp.of k4 (by have := S2.out.bd.lt; omega))); have p0 : World.cell? w4 ⟨w1.heap.size + 1, 0, none⟩ = some pv := S4.out.bp.cell 0; have q0 : World.cell? w4 ⟨q, 0, none⟩ = some (.int .i64 P) := S4.out.bh.cell 0; clear k4))
        exact HI.out _ _ _ S4.out T4.out
  case done =>
    clear bD bP bE bF bG k3 ST
    rintro D ys W hD rfl ⟨⟨dv, pv, h1, h2, h3, h4, h5, h6⟩, hB⟩ hK
    have d0 : W.cell? ⟨w1.heap.size, 0, none⟩ = some dv := h1.cell 0
    have p0 : W.cell? ⟨w1.heap.size + 1, 0, none⟩ = some pv := h2.cell 0
    have HD := Lib.hid (h5.own (grownBy_putObj' W D (.deferred none)) (fun r e => by cases e; exact ⟨_, hK, rfl⟩))
    have HP := Lib.hid (h6.own (grownBy_putObj' W D (.deferred none)) (fun r e => by cases e; exact ⟨_, hK, rfl⟩))
    have HBE := Lib.hid ((Below.drew hB).trans (belowK_b (w := w) (Nat.le_refl _) W.drew D (.deferred (some [])) (.deferred none) (by omega) hK rfl rfl))
    have HK := Lib.hid hK
    have hmx : Try.prog.follows .mixedOrders = true := by kernel_rfl
    clear h1 h2 h3 h4 h5 h6 hB hK
    gi_wp2
    refine wpIn_mono (Q := fun e a' w' => match e with | .normal => a' = { tmps := #[.agg #[.int .i64 P, .int .i64 C, .int .i64 G, .int .i64 O], .slice a fs.length cap, .pointer (some ⟨w.heap.size, 0, none⟩), .pointer (some ⟨w.heap.size + 1, 0, none⟩), dv, pv, .int .i64 0, .int .i64 0, .pointer (some ⟨w1.heap.size, 0, none⟩), .pointer (some ⟨w1.heap.size + 1, 0, none⟩), undef, undef, undef, undef, undef, undef, undef, .agg #[.int .i64 P, .int .i64 C, .int .i64 G, .int .i64 O], .slice a fs.length cap, .int .i64 0, .int .i64 0, .bool false, undef, .agg #[.int .i64 P, .int .i64 C, .int .i64 G, .int .i64 O], .slice a fs.length cap, .func (.func 125) #[] #[.pointer (some ⟨w1.heap.size + 3, 0, none⟩), .pointer (some ⟨w1.heap.size + 2, 0, none⟩)], undef, undef, undef, undef, undef, undef, undef, undef, undef, undef, undef, undef, undef, undef, undef, undef, undef, undef, undef, undef, undef, undef, undef, undef, undef, undef, undef, undef, undef, undef, undef, undef, undef, undef, undef, undef, undef, undef, undef, undef, undef, undef, undef, undef, undef, undef, dv, pv], defers := [{ target := .collected D, args := #[] }] } ∧ w' = W.drew | _ => False) ?_ (fun e a' w' hh => ?_)
    · clear HD HP HBE HK HC HR h60 h1' hm s1 sz
      gi_region_with_o (fail)
      all_goals exact ⟨rfl, rfl⟩
    obtain rfl : e = .normal := by cases e <;> first | rfl | exact hh.elim
    obtain ⟨rfl, rfl⟩ := hh
    all_goals gi_wp2
    all_goals refine ⟨by simp, .inl ⟨_, _, rfl, run_takeDeferred (w := W.drew) HK.out, ?_⟩⟩
    all_goals exact ⟨_, results_tmp3 Try.results37 _ _ _, dv, pv, rfl, HD.out, HP.out, HBE.out⟩
  case stop =>
    rintro D c pre W _ _ h _
    exact h.elim

end Go.Proofs.Ytgccipmeiceonaa
