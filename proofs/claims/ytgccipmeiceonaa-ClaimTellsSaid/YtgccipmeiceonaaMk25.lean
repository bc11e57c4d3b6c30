/-
  Merged: ClmJ, ClmK.
-/
import Derived.Test.YtgccipmeiceonaaMk19
import Derived.Test.YtgccipmeiceonaaMk22
import Derived.Test.YtgccipmeiceonaaMk11
import Derived.Test.YtgccipmeiceonaaMk24
-- ClmJ
namespace Go.Proofs.Ytgccipmeiceonaa
open Go.RowKit Go.Shelf
set_option linter.unusedVariables false
attribute [local go_sem] Oper.semAt_some

set_option maxRecDepth 100000 in
set_option maxHeartbeats 4000000 in
theorem grow_ok (P C G O : Int) (a : Option Addr) (cap : Nat) (fs : List (List Int)) (w : World) (hr : ReadsF w (.slice a fs.length cap) fs) (hn : a = none → cap = 0) (h : cwE P C G O fs = 0) : Calls Try.prog 38 #[.agg #[.int .i64 P, .int .i64 C, .int .i64 G, .int .i64 O], .slice a fs.length cap] w fun e w' => Kpt w w' ∧ ((∃ gv, e = .returned (.tuple #[gv, .int .i64 0]) ∧ OwnsN 10 38 w' w.heap.size gv (gro G O fs (hit P fs fs.length)) ∧ GOk G O fs (hit P fs fs.length)) ∨ (e = .returned (.tuple #[.slice none 0 0, .int .i64 8]) ∧ ∃ pre x, pre ++ [x] <+: hit P fs fs.length ∧ 1073741824 < unL (gro G O fs (pre ++ [x])) x.1)) := by
  obtain ⟨h1', h2⟩ := cwE_0 h
  have h60 := checks_60 h2
  have KA : Hid (Kpt w (((w.alloc (.cells #[.int .i64 P, .int .i64 C, .int .i64 G, .int .i64 O] 53)).alloc (.cells #[.slice none 0 0] 26)).alloc (.cells #[.int .i64 0] 27))) := (((Kpt.refl w).alloc _).alloc _).alloc _
  have B2 : Hid (Blk (((w.alloc (.cells #[.int .i64 P, .int .i64 C, .int .i64 G, .int .i64 O] 53)).alloc (.cells #[.slice none 0 0] 26)).alloc (.cells #[.int .i64 0] 27)) w.heap.size #[.int .i64 P, .int .i64 C, .int .i64 G, .int .i64 O] 53) := ((Blk.made w _ _).alloc _).alloc _
  have B4 : Hid (Blk (((w.alloc (.cells #[.int .i64 P, .int .i64 C, .int .i64 G, .int .i64 O] 53)).alloc (.cells #[.slice none 0 0] 26)).alloc (.cells #[.int .i64 0] 27)) (w.heap.size + 1) #[.slice none 0 0] 26) := by
    have := Blk.made (w.alloc (.cells #[.int .i64 P, .int .i64 C, .int .i64 G, .int .i64 O] 53)) #[.slice none 0 0] 26
    rw [World.size_alloc] at this
    exact this.alloc _
  have B5 : Hid (Blk (((w.alloc (.cells #[.int .i64 P, .int .i64 C, .int .i64 G, .int .i64 O] 53)).alloc (.cells #[.slice none 0 0] 26)).alloc (.cells #[.int .i64 0] 27)) (w.heap.size + 2) #[.int .i64 0] 27) := by
    have := Blk.made ((w.alloc (.cells #[.int .i64 P, .int .i64 C, .int .i64 G, .int .i64 O] 53)).alloc (.cells #[.slice none 0 0] 26)) #[.int .i64 0] 27
    rwa [World.size_alloc, World.size_alloc] at this
  have CW := Lib.hid (fun w' (k : Kpt w w') => checkWith_any P C G O _ fs w' (hr.kpt k))
  rw [h] at CW
  have CL := Lib.hid (fun w' (k : Kpt w w') => cloneF_any a cap fs w' (hr.kpt k) h60 hn)
  have HR := Lib.hid hr
  clear hr h h2 hn
  refine (callsIn_wide (n := 3)).1 ?_
  refine callsIn_of_wp_marks Try.func38 rfl trivial ?_ rfl
  simp only [Try.ntmps38, List.size_toArray, List.length_cons, List.length_nil, Nat.reduceAdd, Nat.reduceSub, Array.replicate_succ, Array.replicate_zero, List.push_toArray, List.append_toArray, List.nil_append, List.cons_append]
  gi_wp2_with (first
    | (refine ⟨trivial, ?_⟩; gi_at_call 93; (with_reducible refine (callsIn_wide.2 (CW.out _ KA.out)).mono ?_); rintro e w1 ⟨rfl, k1⟩; have K1 := Lib.hid (ktr KA.out k1); have E2 := Lib.hid (B2.out.kpt k1); have E4 := Lib.hid (B4.out.kpt k1); have E5 := Lib.hid (B5.out.kpt k1); have s1 : w.heap.size + 3 ≤ w1.heap.size := (by have := Below.size k1; simp at this; omega); clear k1)
    | (refine ⟨trivial, ?_⟩; gi_at_call 95; (with_reducible refine (callsIn_wide.2 (CL.out _ K1.out)).mono ?_); rintro e w2 ⟨v0, rfl, o2, k2⟩; obtain ⟨a2, n2, c2, rfl, hn2⟩ := o2.form; have O2 := Lib.hid o2; have K2 := Lib.hid (ktr K1.out k2); have F2 := Lib.hid (E2.out.kpt k2); have F4 := Lib.hid (E4.out.kpt k2); have F5 := Lib.hid (E5.out.kpt k2); have s2 : w1.heap.size ≤ w2.heap.size := Below.size k2; have X2 := Lib.hid (F2.out.alloc (.cells #[.slice a2 n2 c2] 26)); have x0 : World.cell? (w2.alloc (.cells #[.slice a2 n2 c2] 26)) ⟨w.heap.size, 0, none⟩ = some (.int .i64 P) := X2.out.cell 0; have x1 : World.cell? (w2.alloc (.cells #[.slice a2 n2 c2] 26)) ⟨w.heap.size, 1, none⟩ = some (.int .i64 C) := X2.out.cell 1; have x2 : World.cell? (w2.alloc (.cells #[.slice a2 n2 c2] 26)) ⟨w.heap.size, 2, none⟩ = some (.int .i64 G) := X2.out.cell 2; have x3 : World.cell? (w2.alloc (.cells #[.slice a2 n2 c2] 26)) ⟨w.heap.size, 3, none⟩ = some (.int .i64 O) := X2.out.cell 3; clear k2 o2)
    | (refine ⟨trivial, ?_⟩; gi_at_call 94; (with_reducible refine (callsIn_wide.2 (holdings_run _ _ _ _ _ _ _ _)).mono ?_); rintro e w' ⟨rfl, rfl⟩))
  obtain ⟨w3, hw3⟩ : ∃ w3, (((w2.alloc (.cells #[.slice a2 n2 c2] 26)).alloc (.cells #[.int .i64 P, .int .i64 C, .int .i64 G, .int .i64 O] 53)).alloc (.cells #[.slice a fs.length cap] 26)) = w3 := ⟨_, rfl⟩
  have k23 : Kpt w2 w3 := by rw [← hw3]; exact (((Kpt.refl w2).alloc _).alloc _).alloc _
  have sz : w3.heap.size = w2.heap.size + 3 := by rw [← hw3]; simp
  have k3 : Below w.heap.size w w3 := ktr K2.out k23
  have b7 : Blk w3 w2.heap.size #[.slice a2 n2 c2] 26 := by rw [← hw3]; exact ((Blk.made w2 _ _).alloc _).alloc _
  have bE : Blk w3 (w2.heap.size + 1) #[.int .i64 P, .int .i64 C, .int .i64 G, .int .i64 O] 53 := by
    rw [← hw3]
    have := Blk.made (w2.alloc (.cells #[.slice a2 n2 c2] 26)) #[.int .i64 P, .int .i64 C, .int .i64 G, .int .i64 O] 53
    rw [World.size_alloc] at this
    exact this.alloc _
  have bF : Boxed w3 (w2.heap.size + 2) 26 (.slice a fs.length cap) := by
    rw [← hw3]
    have := Boxed.new ((w2.alloc (.cells #[.slice a2 n2 c2] 26)).alloc (.cells #[.int .i64 P, .int .i64 C, .int .i64 G, .int .i64 O] 53)) 26 (.slice a fs.length cap)
    rwa [World.size_alloc, World.size_alloc] at this
  have b4 := F4.out.kpt k23
  have b5 := F5.out.kpt k23
  have bO := O2.out.kpt k23
  have ST := hold_stops 2 (by omega) w.heap.size w w3 rfl P C G O _ fs (w2.heap.size + 2) (w2.heap.size + 1) HR.out k3 bF.cell bE
  rw [hw3]
  clear hw3 KA B2 B4 B5 CW CL E2 E4 E5 F2 F4 F5 X2 x0 x1 x2 x3 K1 K2 k23 O2
  refine wpIn_rangeFunc_ownH rfl (by omega) (gf := 125) (lb := #[.pointer (some ⟨w2.heap.size + 2, 0, none⟩), .pointer (some ⟨w2.heap.size + 1, 0, none⟩)]) rfl trivial (enters_of Try.func125 (by kernel_rfl) rfl)
    ST KpC.t (KpC.b (by omega) (by omega)) (Below.refl _ _) (fun _ => rfl)
    (fun pre W => (Blk W (w.heap.size + 1) #[.slice none 0 0] 26 ∧ Blk W (w.heap.size + 2) #[.int .i64 0] 27 ∧ Blk W w2.heap.size #[.slice a2 n2 c2] 26 ∧ Blk W (w2.heap.size + 1) #[.int .i64 P, .int .i64 C, .int .i64 G, .int .i64 O] 53 ∧ OwnsN 10 38 W w1.heap.size (.slice a2 n2 c2) (gro G O fs pre) ∧ GOk G O fs pre) ∧ Below w.heap.size w W)
    (fun c pre W => (c = .ret ∧ Blk W (w.heap.size + 1) #[.slice none 0 0] 26 ∧ Blk W (w.heap.size + 2) #[.int .i64 8] 27 ∧ ∃ ini x, pre = ini ++ [x] ∧ 1073741824 < unL (gro G O fs (ini ++ [x])) x.1) ∧ Below w.heap.size w W)
    (OwnFrom.and (Own.from (fun s A B row hs hg hr => by obtain ⟨h1, h2, h3, h4, h5, h6⟩ := hs; exact ⟨h1.own hg hr, h2.own hg hr, h3.own hg hr, h4.own hg hr, h5.own hg hr, h6⟩) _) (ownFrom_below (Nat.le_refl _) (by omega)))
    (fun c => OwnFrom.and (Own.from (fun s A B row hs hg hr => by obtain ⟨h0, h1, h2, h3⟩ := hs; exact ⟨h0, h1.own hg hr, h2.own hg hr, h3⟩) _) (ownFrom_below (Nat.le_refl _) (by omega)))
    ⟨⟨b4, b5, b7, bE, bO, gok_0 _ _ _⟩, k3⟩
    (fun x a' W => ∃ q, w2.heap.size + 1 < q ∧ a' = { tmps := #[.agg #[.int .i64 P, .int .i64 C, .int .i64 G, .int .i64 O], .slice a fs.length cap, .pointer (some ⟨w.heap.size, 0, none⟩), undef, .pointer (some ⟨w.heap.size + 1, 0, none⟩), .pointer (some ⟨w.heap.size + 2, 0, none⟩), .int .i64 0, .pointer (some ⟨w2.heap.size, 0, none⟩), .int .i64 ((x.1 : Nat) : Int), .pointer (some ⟨q, 0, none⟩), undef, undef, .agg #[.int .i64 P, .int .i64 C, .int .i64 G, .int .i64 O], .slice a fs.length cap, .int .i64 0, .int .i64 0, .bool false, undef, .slice a fs.length cap, .slice a2 n2 c2, .agg #[.int .i64 P, .int .i64 C, .int .i64 G, .int .i64 O], .slice a fs.length cap, .func (.func 125) #[] #[.pointer (some ⟨w2.heap.size + 2, 0, none⟩), .pointer (some ⟨w2.heap.size + 1, 0, none⟩)], .int .i64 ((x.1 : Nat) : Int), .agg #[.int .i64 P, .int .i64 C, .int .i64 G, .int .i64 O, .int .i64 (openL (fs.getD x.1 []))], undef, undef, undef, undef, undef, undef, undef, undef, undef, undef, undef, undef, undef, undef, undef, undef, undef, undef, undef, undef, undef], defers := [] } ∧ Blk W q #[.int .i64 P, .int .i64 C, .int .i64 G, .int .i64 O, .int .i64 (openL (fs.getD x.1 []))] 116)
    (fun x a' => Own.from (fun s A B row hs hg hr => by obtain ⟨q, h1, h2, h3⟩ := hs; exact ⟨q, h1, h2, h3.own hg hr⟩) _)
    ?assign ?body ?done ?stop
  case assign =>
    clear b4 b5 b7 bE bF bO k3 ST
    rintro l pre x W K ⟨⟨h4, h5, h7, he, hg, hok⟩, hB⟩ hK
    have ZH : Hid (Blk (W.alloc (.cells #[.int .i64 0, .int .i64 0, .int .i64 0, .int .i64 0, .int .i64 0] 116)) W.heap.size #[.int .i64 0, .int .i64 0, .int .i64 0, .int .i64 0, .int .i64 0] 116) := Blk.made _ _ _
    have KZ : Hid (Kpt W (W.alloc (.cells #[.int .i64 0, .int .i64 0, .int .i64 0, .int .i64 0, .int .i64 0] 116))) := (Kpt.refl W).alloc _
    have hq := he.lt
    generalize openL (fs.getD x.1 []) = U at hK ⊢
    gi_wp2_with (refine wpIn_storeH rfl (.tmp 9) (.tmp 24) rfl W.heap.size _ _ rfl rfl ZH.out rfl rfl (by simp [Value.oneCell']) ?_; intro w9 r9 k9 o9; have R9 := Lib.hid r9; have K9 : Hid (Kpt W w9) := Lib.hid (k9 _ _ KZ.out (Nat.le_refl _)); clear r9 k9 o9)
    exact hK _ _ ((kothers K9.out).from _) ⟨Below.mono K9.out hB.size, Below.block K9.out _ hq⟩ ⟨⟨h4.kpt K9.out, h5.kpt K9.out, h7.kpt K9.out, he.kpt K9.out, hg.kpt K9.out, hok⟩, hB.trans (Below.mono K9.out hB.size)⟩ ⟨_, hq, rfl, R9.out⟩
  case body =>
    clear b4 b5 b7 bE bF bO k3 ST
    rintro l pre x a' W hl - ⟨⟨h4, h5, h7, he, hg, hok⟩, hB⟩ ⟨q, hq, rfl, hh⟩ hlen
    have hlc : x.1 < (gro G O fs pre).length := by rw [gro_len]; exact x.2
    obtain ⟨g, cp, cur, hv, hge, hbk, hc6, -⟩ := hg.opened (by omega)
    rw [gro_len] at hv
    injection hv with v1 v2 v3
    subst v1 v2 v3
    have hU : 0 ≤ openL (fs.getD x.1 []) ∧ openL (fs.getD x.1 []) ≤ 1073741824 := openV_bd _ _ _ _ _ _ _ _ _ _
    obtain ⟨-, hC, hG, hO, -⟩ := evE_0 h1'
    have FA := Lib.hid (fun w => hfresh_run P C G O (openL (fs.getD x.1 [])) hG hO hU w)
    have i0 : (0 : Int) ≤ (x.1 : Int) := by omega
    have i1 : (x.1 : Int) < (fs.length : Int) := by have := x.2; omega
    have c6 : Hid (W.cell? ⟨g, x.1 * 10 + 6, none⟩ = some (.int .i64 (unL (gro G O fs pre) x.1))) := hc6 x.1 6 hlc (by omega)
    have GU := Lib.hid (gro_un G O fs pre x)
    have GS : Hid (∀ w4 : World, Kpt W w4 → OwnsN 10 38 (w4.setCell ⟨g, x.1 * 10 + 6, none⟩ (.int .i64 (IntKind.i64.wrap (unL (gro G O fs pre) x.1 + hoN G O (openL (fs.getD x.1 [])))))) w1.heap.size (.slice (some ⟨g, 0, none⟩) fs.length c2) (gro G O fs (pre ++ [x]))) := fun w4 k4 => by
      rw [gro_s]
      exact (hg.kpt k4).put hlc _
    have H4 := Lib.hid h4
    have H5 := Lib.hid h5
    have H7 := Lib.hid h7
    have HE := Lib.hid he
    have HH := Lib.hid hh
    have HBK := Lib.hid hbk
    have HB := Lib.hid hB
    have HOK := Lib.hid (gok_s hok x)
    have HX : Hid (∃ ini y, pre ++ [x] = ini ++ [y] ∧ unL (gro G O fs (pre ++ [x])) x.1 = unL (gro G O fs (ini ++ [y])) y.1) := ⟨pre, x, rfl, rfl⟩
    have n4 : g ≠ w.heap.size + 1 := Blk.apart hbk h4 (by decide)
    have n5 : g ≠ w.heap.size + 2 := Blk.apart hbk h5 (by decide)
    have n7 : g ≠ w2.heap.size := Blk.apart hbk h7 (by decide)
    have nE : g ≠ w2.heap.size + 1 := Blk.apart hbk he (by decide)
    clear h4 h5 h7 he hg hok hh hbk hc6 hU hC hG hO hB
    generalize hgx : gro G O fs (pre ++ [x]) = gx at GU GS HOK HX
    generalize unL (gro G O fs pre) x.1 = u at *
    generalize unL gx x.1 = ux at *
    generalize x.1 = k at *
    generalize openL (fs.getD k []) = U at *
    generalize hoN G O U = N at *
    generalize hoR G O U = R at *
    obtain ⟨z, m1⟩ : ∃ z, IntKind.i64.wrap (u + N) = z := ⟨_, rfl⟩
    rw [m1] at GU GS
    have hux := GU.out
    rw [hux] at HOK HX
    by_cases hz : 1073741824 < z
    · have z0 : decide ((1073741824 : Int) < z) = true := decide_eq_true hz
      gi_wp2_with (first
        | (refine wpIn_loadH rfl (.tmp 9) rfl q _ rfl HH.out rfl ?_)
        | (refine ⟨trivial, ?_⟩; gi_at_call 92; refine (CallsIn.inRound l (callsIn_wide.2 (FA.out _))).mono ?_; rintro e w4 ⟨rfl, k4⟩; have K4 : Hid (Kpt W w4) := Lib.hid k4; have y7 : World.cell? w4 ⟨w2.heap.size, 0, none⟩ = some (.slice (some ⟨g, 0, none⟩) fs.length c2) := Blk.cell (H7.out.kpt k4) 0; have y6 : World.cell? w4 ⟨g, k * 10 + 6, none⟩ = some (.int .i64 u) := Kpt.cell k4 c6.out; have f6 : World.frozen? w4 ⟨g, k * 10 + 6, none⟩ = false := Blk.frozen (HBK.out.kpt k4) _; have A7 := Lib.hid (Blk.away (H7.out.kpt k4) (p := ⟨g, k * 10 + 6, none⟩) (Ne.symm n7) (.int .i64 z)); have A4 := Lib.hid (Blk.away (H4.out.kpt k4) (p := ⟨g, k * 10 + 6, none⟩) (Ne.symm n4) (.int .i64 z)); have A5 := Lib.hid (Blk.away (H5.out.kpt k4) (p := ⟨g, k * 10 + 6, none⟩) (Ne.symm n5) (.int .i64 z)); have AE := Lib.hid (Blk.away (HE.out.kpt k4) (p := ⟨g, k * 10 + 6, none⟩) (Ne.symm nE) (.int .i64 z)); have z7 : World.cell? (w4.setCell ⟨g, k * 10 + 6, none⟩ (.int .i64 z)) ⟨w2.heap.size, 0, none⟩ = some (.slice (some ⟨g, 0, none⟩) fs.length c2) := A7.out.cell 0; have z4 : World.cell? (w4.setCell ⟨g, k * 10 + 6, none⟩ (.int .i64 z)) ⟨w.heap.size + 1, 0, none⟩ = some (.slice none 0 0) := A4.out.cell 0; have z5 : World.cell? (w4.setCell ⟨g, k * 10 + 6, none⟩ (.int .i64 z)) ⟨w.heap.size + 2, 0, none⟩ = some (.int .i64 0) := A5.out.cell 0; have g4 : World.frozen? (w4.setCell ⟨g, k * 10 + 6, none⟩ (.int .i64 z)) ⟨w.heap.size + 1, 0, none⟩ = false := A4.out.frozen 0; have g5 : World.frozen? (w4.setCell ⟨g, k * 10 + 6, none⟩ (.int .i64 z)) ⟨w.heap.size + 2, 0, none⟩ = false := A5.out.frozen 0; have z6 : World.cell? (w4.setCell ⟨g, k * 10 + 6, none⟩ (.int .i64 z)) ⟨g, k * 10 + 6, none⟩ = some (.int .i64 z) := World.cell?_setCell_same' _ _ _ (by rw [y6]; rfl); clear k4))
      have P4 := (A4.out.put 0 (.slice none 0 0)).away (p := ⟨w.heap.size + 2, 0, none⟩) (by show w.heap.size + 1 ≠ w.heap.size + 2; omega) (.int .i64 8)
      have P5 := (A5.out.away (p := ⟨w.heap.size + 1, 0, none⟩) (by show w.heap.size + 2 ≠ w.heap.size + 1; omega) (.slice none 0 0)).put 0 (.int .i64 8)
      obtain ⟨ini, y, e1, e2⟩ := HX.out
      exact ⟨((((kothers K4.out).trans (KeepsOthers.setCell _ _ _)).trans (KeepsOthers.setCell _ _ _)).trans (KeepsOthers.setCell _ _ _)).from _, ⟨rfl, P4, P5, ini, y, e1, by rw [← e2]; exact hz⟩,
        (((HB.out.trans (Below.mono K4.out HB.out.size)).setCell (p := ⟨g, k * 10 + 6, none⟩) (by show w.heap.size ≤ g; omega) _).setCell (p := ⟨w.heap.size + 1, 0, none⟩) (by show w.heap.size ≤ w.heap.size + 1; omega) _).setCell (p := ⟨w.heap.size + 2, 0, none⟩) (by show w.heap.size ≤ w.heap.size + 2; omega) _⟩
    · have z0 : decide ((1073741824 : Int) < z) = false := decide_eq_false hz
      gi_wp2_with (first
        | (refine wpIn_loadH rfl (.tmp 9) rfl q _ rfl HH.out rfl ?_)
        | (refine ⟨trivial, ?_⟩; gi_at_call 92; refine (CallsIn.inRound l (callsIn_wide.2 (FA.out _))).mono ?_; rintro e w4 ⟨rfl, k4⟩; have K4 : Hid (Kpt W w4) := Lib.hid k4; have y7 : World.cell? w4 ⟨w2.heap.size, 0, none⟩ = some (.slice (some ⟨g, 0, none⟩) fs.length c2) := Blk.cell (H7.out.kpt k4) 0; have y6 : World.cell? w4 ⟨g, k * 10 + 6, none⟩ = some (.int .i64 u) := Kpt.cell k4 c6.out; have f6 : World.frozen? w4 ⟨g, k * 10 + 6, none⟩ = false := Blk.frozen (HBK.out.kpt k4) _; have A7 := Lib.hid (Blk.away (H7.out.kpt k4) (p := ⟨g, k * 10 + 6, none⟩) (Ne.symm n7) (.int .i64 z)); have A4 := Lib.hid (Blk.away (H4.out.kpt k4) (p := ⟨g, k * 10 + 6, none⟩) (Ne.symm n4) (.int .i64 z)); have A5 := Lib.hid (Blk.away (H5.out.kpt k4) (p := ⟨g, k * 10 + 6, none⟩) (Ne.symm n5) (.int .i64 z)); have AE := Lib.hid (Blk.away (HE.out.kpt k4) (p := ⟨g, k * 10 + 6, none⟩) (Ne.symm nE) (.int .i64 z)); have z7 : World.cell? (w4.setCell ⟨g, k * 10 + 6, none⟩ (.int .i64 z)) ⟨w2.heap.size, 0, none⟩ = some (.slice (some ⟨g, 0, none⟩) fs.length c2) := A7.out.cell 0; have z4 : World.cell? (w4.setCell ⟨g, k * 10 + 6, none⟩ (.int .i64 z)) ⟨w.heap.size + 1, 0, none⟩ = some (.slice none 0 0) := A4.out.cell 0; have z5 : World.cell? (w4.setCell ⟨g, k * 10 + 6, none⟩ (.int .i64 z)) ⟨w.heap.size + 2, 0, none⟩ = some (.int .i64 0) := A5.out.cell 0; have g4 : World.frozen? (w4.setCell ⟨g, k * 10 + 6, none⟩ (.int .i64 z)) ⟨w.heap.size + 1, 0, none⟩ = false := A4.out.frozen 0; have g5 : World.frozen? (w4.setCell ⟨g, k * 10 + 6, none⟩ (.int .i64 z)) ⟨w.heap.size + 2, 0, none⟩ = false := A5.out.frozen 0; have z6 : World.cell? (w4.setCell ⟨g, k * 10 + 6, none⟩ (.int .i64 z)) ⟨g, k * 10 + 6, none⟩ = some (.int .i64 z) := World.cell?_setCell_same' _ _ _ (by rw [y6]; rfl); clear k4))
      exact ⟨((kothers K4.out).trans (KeepsOthers.setCell _ _ _)).from _, ⟨(Below.mono K4.out HB.out.size).setCell (p := ⟨g, k * 10 + 6, none⟩) (by show w.heap.size ≤ g; omega) _, AE.out.trans HE.out.symm⟩, ⟨A4.out, A5.out, A7.out, AE.out, (by rw [hgx]; exact GS.out _ K4.out), HOK.out (by omega)⟩, (HB.out.trans (Below.mono K4.out HB.out.size)).setCell (p := ⟨g, k * 10 + 6, none⟩) (by show w.heap.size ≤ g; omega) _⟩
  case done =>
    clear b4 b5 b7 bE bF bO k3 ST
    rintro D ys W hD rfl ⟨⟨h4, h5, h7, he, hg, hok⟩, hB⟩ hK
    have c7 : W.cell? ⟨w2.heap.size, 0, none⟩ = some (.slice a2 n2 c2) := h7.cell 0
    have c4 : W.cell? ⟨w.heap.size + 1, 0, none⟩ = some (.slice none 0 0) := h4.cell 0
    have c5 : W.cell? ⟨w.heap.size + 2, 0, none⟩ = some (.int .i64 0) := h5.cell 0
    have f4 := h4.frozen 0
    have f5 := h5.frozen 0
    have H4 := Lib.hid h4
    have H5 := Lib.hid h5
    have HG := Lib.hid hg
    have HO := Lib.hid hok
    have HB := Lib.hid hB
    have HK := Lib.hid hK
    clear h4 h5 h7 he hg hok hB hK
    gi_wp2
    have P4 := (H4.out.put 0 (.slice a2 n2 c2)).away (p := ⟨w.heap.size + 2, 0, none⟩) (by show w.heap.size + 1 ≠ w.heap.size + 2; omega) (.int .i64 0)
    have P5 := (H5.out.away (p := ⟨w.heap.size + 1, 0, none⟩) (by show w.heap.size + 2 ≠ w.heap.size + 1; omega) (.slice a2 n2 c2)).put 0 (.int .i64 0)
    have PG := (HG.out.away H4.out (by decide) 0 (.slice a2 n2 c2)).away (H5.out.away (p := ⟨w.heap.size + 1, 0, none⟩) (by show w.heap.size + 2 ≠ w.heap.size + 1; omega) (.slice a2 n2 c2)) (by decide) 0 (.int .i64 0)
    have PB := (HB.out.setCell (p := ⟨w.heap.size + 1, 0, none⟩) (by show w.heap.size ≤ w.heap.size + 1; omega) (.slice a2 n2 c2)).setCell (p := ⟨w.heap.size + 2, 0, none⟩) (by show w.heap.size ≤ w.heap.size + 2; omega) (.int .i64 0)
    have hK2 : ((W.setCell ⟨w.heap.size + 1, 0, none⟩ (.slice a2 n2 c2)).setCell ⟨w.heap.size + 2, 0, none⟩ (.int .i64 0)).heap[D]? = some (.deferred (some [])) := by
      rw [Below.heap_setCell _ _ _ _ (by show D ≠ w.heap.size + 2; omega), Below.heap_setCell _ _ _ _ (by show D ≠ w.heap.size + 1; omega)]
      exact HK.out
    have Q4 := P4.own (grownBy_putObj' _ D (.deferred none)) (fun r e => by cases e; exact ⟨_, hK2, rfl⟩)
    have Q5 := P5.own (grownBy_putObj' _ D (.deferred none)) (fun r e => by cases e; exact ⟨_, hK2, rfl⟩)
    have QG := PG.own (grownBy_putObj' _ D (.deferred none)) (fun r e => by cases e; exact ⟨_, hK2, rfl⟩)
    refine ⟨by simp, .inl ⟨_, _, rfl, run_takeDeferred hK2, ?_⟩⟩
    refine ⟨_, results_cc rfl _ _ _ _ _ _ rfl rfl (Q4.cell 0) (Q5.cell 0), PB.trans (belowK_b (w := w) (Nat.le_refl _) _ D _ _ (by omega) hK2 rfl rfl), .inl ⟨_, rfl, ⟨QG.1, ?_⟩, HO.out⟩⟩
    rcases QG.2 with h | ⟨k, cap, cur, e, hk, r⟩
    · exact .inl h
    · exact .inr ⟨k, cap, cur, e, by omega, r⟩
  case stop =>
    clear b4 b5 b7 bE bF bO k3 ST
    rintro D c pre W hD hp ⟨⟨rfl, h4, h5, ini, x, rfl, hx⟩, hB⟩ hK
    have H4 := h4.own (grownBy_putObj' W D (.deferred none)) (fun r e => by cases e; exact ⟨_, hK, rfl⟩)
    have H5 := h5.own (grownBy_putObj' W D (.deferred none)) (fun r e => by cases e; exact ⟨_, hK, rfl⟩)
    gi_wp2
    refine ⟨by simp, .inl ⟨_, _, rfl, run_takeDeferred hK, ?_⟩⟩
    refine ⟨_, results_cc rfl _ _ _ _ _ _ rfl rfl (H4.cell 0) (H5.cell 0), hB.trans (belowK_b (w := w) (Nat.le_refl _) W D _ _ (by omega) hK rfl rfl), .inr ⟨rfl, ini, x, hp, hx⟩⟩

end Go.Proofs.Ytgccipmeiceonaa

-- ClmK
namespace Go.Proofs.Ytgccipmeiceonaa
open Go.RowKit
set_option linter.unusedVariables false

def ck1 : List Int := [7, 1, 2, 0, 3, 739935, 100, 0, 0, 0]
def ckA : Array Value := #[.int .i64 7, .int .i64 1, .int .i64 2, .int .i64 0, .int .i64 3, .int .i64 739935, .int .i64 100, .int .i64 0, .int .i64 0, .int .i64 0]
theorem rf_ck (w : World) : ReadsF (w.alloc (.cells #[.int .i64 7, .int .i64 1, .int .i64 2, .int .i64 0, .int .i64 3, .int .i64 739935, .int .i64 100, .int .i64 0, .int .i64 0, .int .i64 0] 38)) (.slice (some ⟨w.heap.size, 0, none⟩) 1 1) [ck1] := by
  have B := Blk.made w #[.int .i64 7, .int .i64 1, .int .i64 2, .int .i64 0, .int .i64 3, .int .i64 739935, .int .i64 100, .int .i64 0, .int .i64 0, .int .i64 0] 38
  refine ⟨_, 1, rfl, by unfold maxLen; decide, by intro l hl; rw [List.mem_singleton.1 hl]; unfold FlB ck1; decide, fun k hk => ⟨w.heap.size, 0, rfl, fun j hj => ?_⟩⟩
  obtain rfl : k = 0 := by simp at hk; exact hk
  rw [Nat.zero_mul, Nat.zero_add, B.cell]
  rcases (show j = 0 ∨ j = 1 ∨ j = 2 ∨ j = 3 ∨ j = 4 ∨ j = 5 ∨ j = 6 ∨ j = 7 ∨ j = 8 ∨ j = 9 by omega) with rfl | rfl | rfl | rfl | rfl | rfl | rfl | rfl | rfl | rfl <;> rfl
theorem ck_cw : cwE 3 2500 2 3 [ck1] = 0 := by decide +kernel
theorem ck_hit : hit 3 [ck1] [ck1].length = [(⟨0, by decide⟩ : Fin [ck1].length)] := by decide +kernel
theorem ck_d : duesOf 2500 [ck1] [(⟨0, by decide⟩ : Fin [ck1].length)] = [(1, 2, 25)] := by decide +kernel
theorem ck_p : pstsOf 3 2 3 [ck1] [(⟨0, by decide⟩ : Fin [ck1].length)] = [(1, 3, -66), (2, 3, 66)] := by decide +kernel
theorem ck_g : gro 2 3 [ck1] [(⟨0, by decide⟩ : Fin [ck1].length)] = [[7, 1, 2, 0, 3, 739935, 166, 0, 0, 0]] := by decide +kernel
theorem ck_u : unL (gro 2 3 [ck1] [(⟨0, by decide⟩ : Fin [ck1].length)]) 0 = 166 := by decide +kernel
theorem Try.sizeEvt : (Try.prog.info? 53).map (·.size) = some 4 := by kernel_rfl
theorem split_run (w : World) : Calls Try.prog 96 #[] w fun e w' => e = .returned (.agg #[.int .i64 3, .int .i64 2500, .int .i64 2, .int .i64 3]) ∧ Kpt w w' := by
  have R9 := Lib.hid (Blk.made w #[.int .i64 3, .int .i64 2500, .int .i64 2, .int .i64 3] 53)
  go_enter Try.func96, Try.ntmps96
  go_wp2
  exact bodyPost_ret (v := .agg #[.int .i64 3, .int .i64 2500, .int .i64 2, .int .i64 3]) (results_cell_row Try.results96 _ _ w.heap.size _ _ _ _ rfl R9.out Try.underlying53 rfl Try.sizeEvt) rfl ⟨rfl, (Kpt.refl w).alloc _⟩
theorem inp_1 : InP [((1 : Int), (2 : Int), (25 : Int))] := by
  intro p hp; rw [List.mem_singleton.1 hp]; decide
theorem inp_2 : InP [((1 : Int), (3 : Int), (-66 : Int)), (2, 3, 66)] := by
  intro p hp
  rcases List.mem_cons.1 hp with rfl | hp
  · decide
  · rw [List.mem_singleton.1 hp]; decide
theorem ckr_1 {w : World} {g : Nat} {T : TypeId} (h : Blk w g #[.int .i64 1, .int .i64 2, .int .i64 25] T) : ReadsP w (.slice (some ⟨g, 0, none⟩) 1 1) [(1, 2, 25)] := by
  refine ⟨_, 1, rfl, (fun e => by cases e), (by decide), inp_1, fun j hj => ⟨g, 0, rfl, ?_⟩⟩
  obtain rfl : j = 0 := by simpa using hj
  exact ⟨h.cell _, h.cell _, h.cell _⟩
theorem ckr_2 {w : World} {g : Nat} {T : TypeId} (h : Blk w g #[.int .i64 1, .int .i64 3, .int .i64 (-66), .int .i64 2, .int .i64 3, .int .i64 66] T) : ReadsP w (.slice (some ⟨g, 0, none⟩) 2 2) [(1, 3, -66), (2, 3, 66)] := by
  refine ⟨_, 2, rfl, (fun e => by cases e), (by decide), inp_2, fun j hj => ⟨g, 0, rfl, ?_⟩⟩
  rcases (show j = 0 ∨ j = 1 by have : j < 2 := hj; omega) with rfl | rfl
  · exact ⟨h.cell _, h.cell _, h.cell _⟩
  · exact ⟨h.cell _, h.cell _, h.cell _⟩
theorem ck_claims (g : Nat) (w : World) (hr : ReadsF w (.slice (some ⟨g, 0, none⟩) 1 1) [ck1]) : Calls Try.prog 37 #[.agg #[.int .i64 3, .int .i64 2500, .int .i64 2, .int .i64 3], .slice (some ⟨g, 0, none⟩) 1 1] w fun e w' => ∃ dv pv, e = .returned (.tuple #[dv, pv, .int .i64 0]) ∧ ReadsP w' dv [(1, 2, 25)] ∧ ReadsP w' pv [(1, 3, -66), (2, 3, 66)] ∧ Kpt w w' := by
  refine (claims_ok 3 2500 2 3 (some ⟨g, 0, none⟩) 1 [ck1] w hr ck_cw).mono ?_
  rintro e w' ⟨dv, pv, rfl, hd, hp, hk⟩
  rw [ck_hit, ck_d] at hd
  rw [ck_hit, ck_p] at hp
  exact ⟨dv, pv, rfl, hd.reads inp_1, hp.reads inp_2, hk⟩
theorem ck_grow (g : Nat) (w : World) (hr : ReadsF w (.slice (some ⟨g, 0, none⟩) 1 1) [ck1]) : Calls Try.prog 38 #[.agg #[.int .i64 3, .int .i64 2500, .int .i64 2, .int .i64 3], .slice (some ⟨g, 0, none⟩) 1 1] w fun e w' => ∃ b cap, e = .returned (.tuple #[.slice (some ⟨b, 0, none⟩) 1 cap, .int .i64 0]) ∧ w'.cell? ⟨b, 6, none⟩ = some (.int .i64 166) ∧ Kpt w w' := by
  refine (grow_ok 3 2500 2 3 (some ⟨g, 0, none⟩) 1 [ck1] w hr (fun e => by cases e) ck_cw).mono ?_
  rintro e w' ⟨hk, ⟨gv, rfl, ho, -⟩ | ⟨rfl, pre, x, hp, hx⟩⟩
  · rw [ck_hit, ck_g] at ho
    obtain ⟨a, cap, rfl, -, hc⟩ := ho.cells
    obtain ⟨b, rfl, hc'⟩ := hc 0 (by decide)
    exact ⟨b, cap, rfl, hc' 6 (by decide), hk⟩
  · exfalso
    rw [ck_hit] at hp
    have hl := hp.length_le
    simp only [List.length_append, List.length_cons, List.length_nil] at hl
    obtain rfl : pre = [] := List.eq_nil_of_length_eq_zero (by omega)
    rw [List.nil_append] at hp hx
    have hx0 := (List.cons_prefix_cons.1 hp).1
    subst hx0
    rw [show unL (gro 2 3 [ck1] [(⟨0, by decide⟩ : Fin [ck1].length)]) (⟨0, by decide⟩ : Fin [ck1].length).1 = 166 from ck_u] at hx
    omega
theorem ck_c1 : hoE 3 2500 2 3 100 = 0 ∧ hoC 2500 100 = 25 ∧ hoN 2 3 100 = 66 ∧ hoR 2 3 100 = 2 ∧ hoE 3 2500 2 3 (-1) = 3 ∧ evE 1 0 0 0 = 1 := by decide +kernel

set_option maxRecDepth 100000 in
set_option maxHeartbeats 8000000 in
theorem claimBegun (w : World) : Calls Try.prog 44 #[] w fun e w' => e = .returned (.bool true) ∧ Kpt w w' := by
  obtain ⟨c1, c2, c3, c4, c5, c6⟩ := ck_c1
  have A1 := Lib.hid (fun w' => cash_any 3 2500 2 3 100 w')
  rw [c1, if_pos rfl, c2] at A1
  have A2 := Lib.hid (fun w' => cash_any 3 2500 2 3 (-1) w')
  rw [c5, if_neg (by decide)] at A2
  have F1 := Lib.hid (fun w' => fresh_any 3 2500 2 3 100 w')
  rw [c1, if_pos rfl, if_pos rfl, c3, c4] at F1
  have V1 := Lib.hid (fun w' => ev_run 1 0 0 0 w')
  rw [c6] at V1
  clear c1 c2 c3 c4 c5 c6
  have K0 : Hid (Kpt w w) := Kpt.refl w
  go_enter Try.func44, Try.ntmps44
  go_wp2_with (first
    | (go_at_call 96; (with_reducible refine (split_run _).mono ?_); rintro e w1 ⟨rfl, k1⟩; have K0 := Lib.hid (ktr K0.out k1); (try have DR := Lib.hid (DR.out.kpt k1)); (try have PR := Lib.hid (PR.out.kpt k1)); (try have h6 := Kpt.cell k1 h6); clear k1)
    | (go_at_call 35; (with_reducible refine (A1.out _).mono ?_); rintro e w2 ⟨rfl, k1⟩; have K0 := Lib.hid (ktr K0.out k1); clear k1 A1)
    | (go_at_call 35; (with_reducible refine (A2.out _).mono ?_); rintro e w2 ⟨rfl, k1⟩; have K0 := Lib.hid (ktr K0.out k1); have DR := Lib.hid (DR.out.kpt k1); have PR := Lib.hid (PR.out.kpt k1); have h6 := Kpt.cell k1 h6; clear k1 A2)
    | (go_at_call 36; (with_reducible refine (F1.out _).mono ?_); rintro e w3 ⟨rfl, k1⟩; have K0 := Lib.hid (ktr K0.out k1); clear k1 F1)
    | (go_at_call 68; (with_reducible refine (some_run _).mono ?_); rintro e w4 ⟨rfl, k1⟩; have K0 := Lib.hid ((ktr K0.out k1).alloc (.cells #[.int .i64 7, .int .i64 1, .int .i64 2, .int .i64 0, .int .i64 3, .int .i64 739935, .int .i64 100, .int .i64 0, .int .i64 0, .int .i64 0] 38)); have FR := Lib.hid (rf_ck w4); (try have DR := Lib.hid ((DR.out.kpt k1).kpt ((Kpt.refl _).alloc (.cells #[.int .i64 7, .int .i64 1, .int .i64 2, .int .i64 0, .int .i64 3, .int .i64 739935, .int .i64 100, .int .i64 0, .int .i64 0, .int .i64 0] 38)))); (try have PR := Lib.hid ((PR.out.kpt k1).kpt ((Kpt.refl _).alloc (.cells #[.int .i64 7, .int .i64 1, .int .i64 2, .int .i64 0, .int .i64 3, .int .i64 739935, .int .i64 100, .int .i64 0, .int .i64 0, .int .i64 0] 38)))); clear k1)
    | (go_at_call 37; (with_reducible refine (ck_claims _ _ FR.out).mono ?_); rintro e w5 ⟨dv, pv, rfl, hd, hp, k1⟩; have K0 := Lib.hid (ktr K0.out k1); have DR := Lib.hid hd; have PR := Lib.hid hp; clear k1 hd hp FR)
    | (go_at_call 38; (with_reducible refine (ck_grow _ _ FR.out).mono ?_); rintro e w6 ⟨b, cp, rfl, h6, k1⟩; have K0 := Lib.hid (ktr K0.out k1); have DR := Lib.hid (DR.out.kpt k1); have PR := Lib.hid (PR.out.kpt k1); clear k1 FR)
    | (go_at_call 14; (with_reducible refine (sameD_any _ _ _ _ (DR.out.kpt ((Kpt.refl _).alloc _)) (ckr_1 (Blk.made _ _ _))).mono ?_); rintro e w7 ⟨rfl, k1⟩; have K0 := Lib.hid (ktr (K0.out.alloc _) k1); have PR := Lib.hid ((PR.out.kpt ((Kpt.refl _).alloc _)).kpt k1); have h6 := Kpt.cell k1 (((Kpt.refl _).alloc _).cell h6); clear k1 DR)
    | (go_at_call 24; (with_reducible refine (sameP_any _ _ _ _ (PR.out.kpt ((Kpt.refl _).alloc _)) (ckr_2 (Blk.made _ _ _))).mono ?_); rintro e w8 ⟨rfl, k1⟩; have K0 := Lib.hid (ktr (K0.out.alloc _) k1); have h6 := Kpt.cell k1 (((Kpt.refl _).alloc _).cell h6); clear k1 PR)
    | (go_at_call 45; (with_reducible refine (V1.out _).mono ?_); rintro e w9 ⟨rfl, k1⟩; have K0 := Lib.hid (ktr K0.out k1); clear k1))
  go_ret
  exact ⟨rfl, K0.out⟩

end Go.Proofs.Ytgccipmeiceonaa
