/-
  What Grow of package claim does with an event and fails that are right.
-/
import Derived.Test.YtklaojahocjeiaaClmI
import Derived.Test.YtklaojahocjeiaaClmF
namespace Go.Proofs.Ytklaojahocjeiaa
open Go.RowKit Go.Shelf
set_option linter.unusedVariables false
attribute [local go_sem] Oper.semAt_some

theorem cloneF_any (a : Option Addr) (cap : Nat) (fs : List (List Int)) (w : World) (hr : ReadsF w (.slice a fs.length cap) fs) (hm : fs.length ≤ 60) (hn : a = none → cap = 0) :
    Calls Try.prog 33 #[.slice a fs.length cap] w fun e w' => ∃ v, e = .returned v ∧ OwnsN 10 49 w' w.heap.size v fs ∧ Kpt w w' := by
  rcases a with _ | x
  · obtain rfl := hn rfl
    have h0 : fs = [] := by
      obtain ⟨a', cap', e, _, _, hc⟩ := hr
      injection e with e1 _ _
      cases fs with
      | nil => rfl
      | cons l t => obtain ⟨g, off, e', _⟩ := hc 0 (by simp); rw [← e1] at e'; cases e'
    subst h0
    refine (cloneF_nil w).mono ?_
    rintro e w' ⟨rfl, rfl⟩
    exact ⟨_, rfl, OwnsN.nil _ _ _ _, Kpt.refl _⟩
  · cases fs with
    | nil => exact cloneF_zero x cap w
    | cons l t =>
      have hr2 := hr
      obtain ⟨a', cap', e, _, _, hc⟩ := hr
      injection e with e1 _ _
      obtain ⟨g, off, e', _⟩ := hc 0 (by simp)
      rw [← e1] at e'
      injection e' with e'
      subst e'
      exact cloneF_some g off cap _ w hr2 hm

set_option maxRecDepth 100000 in
set_option maxHeartbeats 4000000 in
theorem grow_ok (P C G O : Int) (a : Option Addr) (cap : Nat) (fs : List (List Int)) (w : World) (hr : ReadsF w (.slice a fs.length cap) fs) (hn : a = none → cap = 0) (h : cwE P C G O fs = 0) : Calls Try.prog 11 #[.agg #[.int .i64 P, .int .i64 C, .int .i64 G, .int .i64 O], .slice a fs.length cap] w fun e w' => Kpt w w' ∧ ((∃ gv, e = .returned (.tuple #[gv, .int .i64 0]) ∧ OwnsN 10 49 w' w.heap.size gv (gro G O fs (hit P fs fs.length)) ∧ GOk G O fs (hit P fs fs.length)) ∨ (e = .returned (.tuple #[.slice none 0 0, .int .i64 8]) ∧ ∃ pre x, pre ++ [x] <+: hit P fs fs.length ∧ 1073741824 < unL (gro G O fs (pre ++ [x])) x.1)) := by
  obtain ⟨h1', h2⟩ := cwE_0 h
  have h60 := checks_60 h2
  have KA : Hid (Kpt w (((w.alloc (.cells #[.int .i64 P, .int .i64 C, .int .i64 G, .int .i64 O] 23)).alloc (.cells #[.slice none 0 0] 24)).alloc (.cells #[.int .i64 0] 25))) := (((Kpt.refl w).alloc _).alloc _).alloc _
  have B2 : Hid (Blk (((w.alloc (.cells #[.int .i64 P, .int .i64 C, .int .i64 G, .int .i64 O] 23)).alloc (.cells #[.slice none 0 0] 24)).alloc (.cells #[.int .i64 0] 25)) w.heap.size #[.int .i64 P, .int .i64 C, .int .i64 G, .int .i64 O] 23) := ((Blk.made w _ _).alloc _).alloc _
  have B4 : Hid (Blk (((w.alloc (.cells #[.int .i64 P, .int .i64 C, .int .i64 G, .int .i64 O] 23)).alloc (.cells #[.slice none 0 0] 24)).alloc (.cells #[.int .i64 0] 25)) (w.heap.size + 1) #[.slice none 0 0] 24) := by
    have := Blk.made (w.alloc (.cells #[.int .i64 P, .int .i64 C, .int .i64 G, .int .i64 O] 23)) #[.slice none 0 0] 24
    rw [World.size_alloc] at this
    exact this.alloc _
  have B5 : Hid (Blk (((w.alloc (.cells #[.int .i64 P, .int .i64 C, .int .i64 G, .int .i64 O] 23)).alloc (.cells #[.slice none 0 0] 24)).alloc (.cells #[.int .i64 0] 25)) (w.heap.size + 2) #[.int .i64 0] 25) := by
    have := Blk.made ((w.alloc (.cells #[.int .i64 P, .int .i64 C, .int .i64 G, .int .i64 O] 23)).alloc (.cells #[.slice none 0 0] 24)) #[.int .i64 0] 25
    rwa [World.size_alloc, World.size_alloc] at this
  have CW := Lib.hid (fun w' (k : Kpt w w') => checkWith_any P C G O _ fs w' (hr.kpt k))
  rw [h] at CW
  have CL := Lib.hid (fun w' (k : Kpt w w') => cloneF_any a cap fs w' (hr.kpt k) h60 hn)
  have HR := Lib.hid hr
  clear hr h h2 hn
  refine (callsIn_wide (n := 3)).1 ?_
  refine callsIn_of_wp_marks Try.func11 rfl trivial ?_ rfl
  simp only [Try.ntmps11, List.size_toArray, List.length_cons, List.length_nil, Nat.reduceAdd, Nat.reduceSub, Array.replicate_succ, Array.replicate_zero, List.push_toArray, List.append_toArray, List.nil_append, List.cons_append]
  gi_wp2_with (first
    | (refine ⟨trivial, ?_⟩; gi_at_call 31; (with_reducible refine (callsIn_wide.2 (CW.out _ KA.out)).mono ?_); rintro e w1 ⟨rfl, k1⟩; have K1 := Lib.hid (ktr KA.out k1); have E2 := Lib.hid (B2.out.kpt k1); have E4 := Lib.hid (B4.out.kpt k1); have E5 := Lib.hid (B5.out.kpt k1); have s1 : w.heap.size + 3 ≤ w1.heap.size := (by have := Below.size k1; simp at this; omega); clear k1)
    | (refine ⟨trivial, ?_⟩; gi_at_call 33; (with_reducible refine (callsIn_wide.2 (CL.out _ K1.out)).mono ?_); rintro e w2 ⟨v0, rfl, o2, k2⟩; obtain ⟨a2, n2, c2, rfl, hn2⟩ := o2.form; have O2 := Lib.hid o2; have K2 := Lib.hid (ktr K1.out k2); have F2 := Lib.hid (E2.out.kpt k2); have F4 := Lib.hid (E4.out.kpt k2); have F5 := Lib.hid (E5.out.kpt k2); have s2 : w1.heap.size ≤ w2.heap.size := Below.size k2; have X2 := Lib.hid (F2.out.alloc (.cells #[.slice a2 n2 c2] 24)); have x0 : World.cell? (w2.alloc (.cells #[.slice a2 n2 c2] 24)) ⟨w.heap.size, 0, none⟩ = some (.int .i64 P) := X2.out.cell 0; have x1 : World.cell? (w2.alloc (.cells #[.slice a2 n2 c2] 24)) ⟨w.heap.size, 1, none⟩ = some (.int .i64 C) := X2.out.cell 1; have x2 : World.cell? (w2.alloc (.cells #[.slice a2 n2 c2] 24)) ⟨w.heap.size, 2, none⟩ = some (.int .i64 G) := X2.out.cell 2; have x3 : World.cell? (w2.alloc (.cells #[.slice a2 n2 c2] 24)) ⟨w.heap.size, 3, none⟩ = some (.int .i64 O) := X2.out.cell 3; clear k2 o2)
    | (refine ⟨trivial, ?_⟩; gi_at_call 32; (with_reducible refine (callsIn_wide.2 (holdings_run _ _ _ _ _ _ _ _)).mono ?_); rintro e w' ⟨rfl, rfl⟩))
  obtain ⟨w3, hw3⟩ : ∃ w3, (((w2.alloc (.cells #[.slice a2 n2 c2] 24)).alloc (.cells #[.int .i64 P, .int .i64 C, .int .i64 G, .int .i64 O] 23)).alloc (.cells #[.slice a fs.length cap] 24)) = w3 := ⟨_, rfl⟩
  have k23 : Kpt w2 w3 := by rw [← hw3]; exact (((Kpt.refl w2).alloc _).alloc _).alloc _
  have sz : w3.heap.size = w2.heap.size + 3 := by rw [← hw3]; simp
  have k3 : Below w.heap.size w w3 := ktr K2.out k23
  have b7 : Blk w3 w2.heap.size #[.slice a2 n2 c2] 24 := by rw [← hw3]; exact ((Blk.made w2 _ _).alloc _).alloc _
  have bE : Blk w3 (w2.heap.size + 1) #[.int .i64 P, .int .i64 C, .int .i64 G, .int .i64 O] 23 := by
    rw [← hw3]
    have := Blk.made (w2.alloc (.cells #[.slice a2 n2 c2] 24)) #[.int .i64 P, .int .i64 C, .int .i64 G, .int .i64 O] 23
    rw [World.size_alloc] at this
    exact this.alloc _
  have bF : Boxed w3 (w2.heap.size + 2) 24 (.slice a fs.length cap) := by
    rw [← hw3]
    have := Boxed.new ((w2.alloc (.cells #[.slice a2 n2 c2] 24)).alloc (.cells #[.int .i64 P, .int .i64 C, .int .i64 G, .int .i64 O] 23)) 24 (.slice a fs.length cap)
    rwa [World.size_alloc, World.size_alloc] at this
  have b4 := F4.out.kpt k23
  have b5 := F5.out.kpt k23
  have bO := O2.out.kpt k23
  have ST := hold_stops 2 (by omega) w.heap.size w w3 rfl P C G O _ fs (w2.heap.size + 2) (w2.heap.size + 1) HR.out k3 bF.cell bE
  rw [hw3]
  clear hw3 KA B2 B4 B5 CW CL E2 E4 E5 F2 F4 F5 X2 x0 x1 x2 x3 K1 K2 k23 O2
  refine wpIn_rangeFunc_ownH rfl (by omega) (gf := 55) (lb := #[.pointer (some ⟨w2.heap.size + 2, 0, none⟩), .pointer (some ⟨w2.heap.size + 1, 0, none⟩)]) rfl trivial (enters_of Try.func55 (by kernel_rfl) rfl)
    ST KpC.t (KpC.b (by omega) (by omega)) (Below.refl _ _) (fun _ => rfl)
    (fun pre W => (Blk W (w.heap.size + 1) #[.slice none 0 0] 24 ∧ Blk W (w.heap.size + 2) #[.int .i64 0] 25 ∧ Blk W w2.heap.size #[.slice a2 n2 c2] 24 ∧ Blk W (w2.heap.size + 1) #[.int .i64 P, .int .i64 C, .int .i64 G, .int .i64 O] 23 ∧ OwnsN 10 49 W w1.heap.size (.slice a2 n2 c2) (gro G O fs pre) ∧ GOk G O fs pre) ∧ Below w.heap.size w W)
    (fun c pre W => (c = .ret ∧ Blk W (w.heap.size + 1) #[.slice none 0 0] 24 ∧ Blk W (w.heap.size + 2) #[.int .i64 8] 25 ∧ ∃ ini x, pre = ini ++ [x] ∧ 1073741824 < unL (gro G O fs (ini ++ [x])) x.1) ∧ Below w.heap.size w W)
    (OwnFrom.and (Own.from (fun s A B row hs hg hr => by obtain ⟨h1, h2, h3, h4, h5, h6⟩ := hs; exact ⟨h1.own hg hr, h2.own hg hr, h3.own hg hr, h4.own hg hr, h5.own hg hr, h6⟩) _) (ownFrom_below (Nat.le_refl _) (by omega)))
    (fun c => OwnFrom.and (Own.from (fun s A B row hs hg hr => by obtain ⟨h0, h1, h2, h3⟩ := hs; exact ⟨h0, h1.own hg hr, h2.own hg hr, h3⟩) _) (ownFrom_below (Nat.le_refl _) (by omega)))
    ⟨⟨b4, b5, b7, bE, bO, gok_0 _ _ _⟩, k3⟩
    (fun x a' W => ∃ q, w2.heap.size + 1 < q ∧ a' = { tmps := #[.agg #[.int .i64 P, .int .i64 C, .int .i64 G, .int .i64 O], .slice a fs.length cap, .pointer (some ⟨w.heap.size, 0, none⟩), undef, .pointer (some ⟨w.heap.size + 1, 0, none⟩), .pointer (some ⟨w.heap.size + 2, 0, none⟩), .int .i64 0, .pointer (some ⟨w2.heap.size, 0, none⟩), .int .i64 ((x.1 : Nat) : Int), .pointer (some ⟨q, 0, none⟩), undef, undef, .agg #[.int .i64 P, .int .i64 C, .int .i64 G, .int .i64 O], .slice a fs.length cap, .int .i64 0, .int .i64 0, .bool false, undef, .slice a fs.length cap, .slice a2 n2 c2, .agg #[.int .i64 P, .int .i64 C, .int .i64 G, .int .i64 O], .slice a fs.length cap, .func (.func 55) #[] #[.pointer (some ⟨w2.heap.size + 2, 0, none⟩), .pointer (some ⟨w2.heap.size + 1, 0, none⟩)], .int .i64 ((x.1 : Nat) : Int), .agg #[.int .i64 P, .int .i64 C, .int .i64 G, .int .i64 O, .int .i64 (openL (fs.getD x.1 []))], undef, undef, undef, undef, undef, undef, undef, undef, undef, undef, undef, undef, undef, undef, undef, undef, undef, undef, undef, undef, undef], defers := [] } ∧ Blk W q #[.int .i64 P, .int .i64 C, .int .i64 G, .int .i64 O, .int .i64 (openL (fs.getD x.1 []))] 58)
    (fun x a' => Own.from (fun s A B row hs hg hr => by obtain ⟨q, h1, h2, h3⟩ := hs; exact ⟨q, h1, h2, h3.own hg hr⟩) _)
    ?assign ?body ?done ?stop
  case assign =>
    clear b4 b5 b7 bE bF bO k3 ST
    rintro l pre x W K ⟨⟨h4, h5, h7, he, hg, hok⟩, hB⟩ hK
    have ZH : Hid (Blk (W.alloc (.cells #[.int .i64 0, .int .i64 0, .int .i64 0, .int .i64 0, .int .i64 0] 58)) W.heap.size #[.int .i64 0, .int .i64 0, .int .i64 0, .int .i64 0, .int .i64 0] 58) := Blk.made _ _ _
    have KZ : Hid (Kpt W (W.alloc (.cells #[.int .i64 0, .int .i64 0, .int .i64 0, .int .i64 0, .int .i64 0] 58))) := (Kpt.refl W).alloc _
    have hq := he.lt
    generalize openL (fs.getD x.1 []) = U at hK ⊢
    gi_wp2_with (refine wpIn_storeH rfl (.tmp 9) (.tmp 24) rfl W.heap.size _ _ rfl rfl ZH.out rfl rfl (by simp [Value.oneCell']) ?_; intro w9 r9 k9 o9; have R9 := Lib.hid r9; have K9 : Hid (Kpt W w9) := Lib.hid (k9 _ _ KZ.out (Nat.le_refl _)); clear r9 k9 o9)
    exact hK _ _ ((kothers K9.out).from _) ⟨Below.mono K9.out hB.size, Below.block K9.out _ hq⟩ ⟨⟨h4.kpt K9.out, h5.kpt K9.out, h7.kpt K9.out, he.kpt K9.out, hg.kpt K9.out, hok⟩, hB.trans (Below.mono K9.out hB.size)⟩ ⟨_, hq, rfl, R9.out⟩
  case body =>
    clear b4 b5 b7 bE bF bO k3 ST
    rintro l pre x a' W hl - ⟨⟨h4, h5, h7, he, hg, hok⟩, hB⟩ ⟨q, hq, rfl, hh⟩ hlen
    have hlc : x.1 < (gro G O fs pre).length := by rw [gro_len]; exact x.2
    obtain ⟨g, cp, cur, hv, hge, hbk, hc6, -⟩ := hg.opened (by omega)
    rw [gro_len] at hv
    injection hv with v1 v2 v3
    subst v1 v2 v3
    have hU : 0 ≤ openL (fs.getD x.1 []) ∧ openL (fs.getD x.1 []) ≤ 1073741824 := openV_bd _ _ _ _ _ _ _ _ _ _
    obtain ⟨-, hC, hG, hO, -⟩ := evE_0 h1'
    have FA := Lib.hid (fun w => hfresh_run P C G O (openL (fs.getD x.1 [])) hG hO hU w)
    have i0 : (0 : Int) ≤ (x.1 : Int) := by omega
    have i1 : (x.1 : Int) < (fs.length : Int) := by have := x.2; omega
    have c6 : Hid (W.cell? ⟨g, x.1 * 10 + 6, none⟩ = some (.int .i64 (unL (gro G O fs pre) x.1))) := hc6 x.1 6 hlc (by omega)
    have GU := Lib.hid (gro_un G O fs pre x)
    have GS : Hid (∀ w4 : World, Kpt W w4 → OwnsN 10 49 (w4.setCell ⟨g, x.1 * 10 + 6, none⟩ (.int .i64 (IntKind.i64.wrap (unL (gro G O fs pre) x.1 + hoN G O (openL (fs.getD x.1 [])))))) w1.heap.size (.slice (some ⟨g, 0, none⟩) fs.length c2) (gro G O fs (pre ++ [x]))) := fun w4 k4 => by
      rw [gro_s]
      exact (hg.kpt k4).put hlc _
    have H4 := Lib.hid h4
    have H5 := Lib.hid h5
    have H7 := Lib.hid h7
    have HE := Lib.hid he
    have HH := Lib.hid hh
    have HBK := Lib.hid hbk
    have HB := Lib.hid hB
    have HOK := Lib.hid (gok_s hok x)
    have HX : Hid (∃ ini y, pre ++ [x] = ini ++ [y] ∧ unL (gro G O fs (pre ++ [x])) x.1 = unL (gro G O fs (ini ++ [y])) y.1) := ⟨pre, x, rfl, rfl⟩
    have n4 : g ≠ w.heap.size + 1 := Blk.apart hbk h4 (by decide)
    have n5 : g ≠ w.heap.size + 2 := Blk.apart hbk h5 (by decide)
    have n7 : g ≠ w2.heap.size := Blk.apart hbk h7 (by decide)
    have nE : g ≠ w2.heap.size + 1 := Blk.apart hbk he (by decide)
    clear h4 h5 h7 he hg hok hh hbk hc6 hU hC hG hO hB
    generalize hgx : gro G O fs (pre ++ [x]) = gx at GU GS HOK HX
    generalize unL (gro G O fs pre) x.1 = u at *
    generalize unL gx x.1 = ux at *
    generalize x.1 = k at *
    generalize openL (fs.getD k []) = U at *
    generalize hoN G O U = N at *
    generalize hoR G O U = R at *
    obtain ⟨z, m1⟩ : ∃ z, IntKind.i64.wrap (u + N) = z := ⟨_, rfl⟩
    rw [m1] at GU GS
    have hux := GU.out
    rw [hux] at HOK HX
    by_cases hz : 1073741824 < z
    · have z0 : decide ((1073741824 : Int) < z) = true := decide_eq_true hz
      gi_wp2_with (first
        | (refine wpIn_loadH rfl (.tmp 9) rfl q _ rfl HH.out rfl ?_)
        | (refine ⟨trivial, ?_⟩; gi_at_call 30; refine (CallsIn.inRound l (callsIn_wide.2 (FA.out _))).mono ?_; rintro e w4 ⟨rfl, k4⟩; have K4 : Hid (Kpt W w4) := Lib.hid k4; have y7 : World.cell? w4 ⟨w2.heap.size, 0, none⟩ = some (.slice (some ⟨g, 0, none⟩) fs.length c2) := Blk.cell (H7.out.kpt k4) 0; have y6 : World.cell? w4 ⟨g, k * 10 + 6, none⟩ = some (.int .i64 u) := Kpt.cell k4 c6.out; have f6 : World.frozen? w4 ⟨g, k * 10 + 6, none⟩ = false := Blk.frozen (HBK.out.kpt k4) _; have A7 := Lib.hid (Blk.away (H7.out.kpt k4) (p := ⟨g, k * 10 + 6, none⟩) (Ne.symm n7) (.int .i64 z)); have A4 := Lib.hid (Blk.away (H4.out.kpt k4) (p := ⟨g, k * 10 + 6, none⟩) (Ne.symm n4) (.int .i64 z)); have A5 := Lib.hid (Blk.away (H5.out.kpt k4) (p := ⟨g, k * 10 + 6, none⟩) (Ne.symm n5) (.int .i64 z)); have AE := Lib.hid (Blk.away (HE.out.kpt k4) (p := ⟨g, k * 10 + 6, none⟩) (Ne.symm nE) (.int .i64 z)); have z7 : World.cell? (w4.setCell ⟨g, k * 10 + 6, none⟩ (.int .i64 z)) ⟨w2.heap.size, 0, none⟩ = some (.slice (some ⟨g, 0, none⟩) fs.length c2) := A7.out.cell 0; have z4 : World.cell? (w4.setCell ⟨g, k * 10 + 6, none⟩ (.int .i64 z)) ⟨w.heap.size + 1, 0, none⟩ = some (.slice none 0 0) := A4.out.cell 0; have z5 : World.cell? (w4.setCell ⟨g, k * 10 + 6, none⟩ (.int .i64 z)) ⟨w.heap.size + 2, 0, none⟩ = some (.int .i64 0) := A5.out.cell 0; have g4 : World.frozen? (w4.setCell ⟨g, k * 10 + 6, none⟩ (.int .i64 z)) ⟨w.heap.size + 1, 0, none⟩ = false := A4.out.frozen 0; have g5 : World.frozen? (w4.setCell ⟨g, k * 10 + 6, none⟩ (.int .i64 z)) ⟨w.heap.size + 2, 0, none⟩ = false := A5.out.frozen 0; have z6 : World.cell? (w4.setCell ⟨g, k * 10 + 6, none⟩ (.int .i64 z)) ⟨g, k * 10 + 6, none⟩ = some (.int .i64 z) := World.cell?_setCell_same' _ _ _ (by rw [y6]; rfl); clear k4))
      have P4 := (A4.out.put 0 (.slice none 0 0)).away (p := ⟨w.heap.size + 2, 0, none⟩) (by show w.heap.size + 1 ≠ w.heap.size + 2; omega) (.int .i64 8)
      have P5 := (A5.out.away (p := ⟨w.heap.size + 1, 0, none⟩) (by show w.heap.size + 2 ≠ w.heap.size + 1; omega) (.slice none 0 0)).put 0 (.int .i64 8)
      obtain ⟨ini, y, e1, e2⟩ := HX.out
      exact ⟨((((kothers K4.out).trans (KeepsOthers.setCell _ _ _)).trans (KeepsOthers.setCell _ _ _)).trans (KeepsOthers.setCell _ _ _)).from _, ⟨rfl, P4, P5, ini, y, e1, by rw [← e2]; exact hz⟩,
        (((HB.out.trans (Below.mono K4.out HB.out.size)).setCell (p := ⟨g, k * 10 + 6, none⟩) (by show w.heap.size ≤ g; omega) _).setCell (p := ⟨w.heap.size + 1, 0, none⟩) (by show w.heap.size ≤ w.heap.size + 1; omega) _).setCell (p := ⟨w.heap.size + 2, 0, none⟩) (by show w.heap.size ≤ w.heap.size + 2; omega) _⟩
    · have z0 : decide ((1073741824 : Int) < z) = false := decide_eq_false hz
      gi_wp2_with (first
        | (refine wpIn_loadH rfl (.tmp 9) rfl q _ rfl HH.out rfl ?_)
        | (refine ⟨trivial, ?_⟩; gi_at_call 30; refine (CallsIn.inRound l (callsIn_wide.2 (FA.out _))).mono ?_; rintro e w4 ⟨rfl, k4⟩; have K4 : Hid (Kpt W w4) := Lib.hid k4; have y7 : World.cell? w4 ⟨w2.heap.size, 0, none⟩ = some (.slice (some ⟨g, 0, none⟩) fs.length c2) := Blk.cell (H7.out.kpt k4) 0; have y6 : World.cell? w4 ⟨g, k * 10 + 6, none⟩ = some (.int .i64 u) := Kpt.cell k4 c6.out; have f6 : World.frozen? w4 ⟨g, k * 10 + 6, none⟩ = false := Blk.frozen (HBK.out.kpt k4) _; have A7 := Lib.hid (Blk.away (H7.out.kpt k4) (p := ⟨g, k * 10 + 6, none⟩) (Ne.symm n7) (.int .i64 z)); have A4 := Lib.hid (Blk.away (H4.out.kpt k4) (p := ⟨g, k * 10 + 6, none⟩) (Ne.symm n4) (.int .i64 z)); have A5 := Lib.hid (Blk.away (H5.out.kpt k4) (p := ⟨g, k * 10 + 6, none⟩) (Ne.symm n5) (.int .i64 z)); have AE := Lib.hid (Blk.away (HE.out.kpt k4) (p := ⟨g, k * 10 + 6, none⟩) (Ne.symm nE) (.int .i64 z)); have z7 : World.cell? (w4.setCell ⟨g, k * 10 + 6, none⟩ (.int .i64 z)) ⟨w2.heap.size, 0, none⟩ = some (.slice (some ⟨g, 0, none⟩) fs.length c2) := A7.out.cell 0; have z4 : World.cell? (w4.setCell ⟨g, k * 10 + 6, none⟩ (.int .i64 z)) ⟨w.heap.size + 1, 0, none⟩ = some (.slice none 0 0) := A4.out.cell 0; have z5 : World.cell? (w4.setCell ⟨g, k * 10 + 6, none⟩ (.int .i64 z)) ⟨w.heap.size + 2, 0, none⟩ = some (.int .i64 0) := A5.out.cell 0; have g4 : World.frozen? (w4.setCell ⟨g, k * 10 + 6, none⟩ (.int .i64 z)) ⟨w.heap.size + 1, 0, none⟩ = false := A4.out.frozen 0; have g5 : World.frozen? (w4.setCell ⟨g, k * 10 + 6, none⟩ (.int .i64 z)) ⟨w.heap.size + 2, 0, none⟩ = false := A5.out.frozen 0; have z6 : World.cell? (w4.setCell ⟨g, k * 10 + 6, none⟩ (.int .i64 z)) ⟨g, k * 10 + 6, none⟩ = some (.int .i64 z) := World.cell?_setCell_same' _ _ _ (by rw [y6]; rfl); clear k4))
      exact ⟨((kothers K4.out).trans (KeepsOthers.setCell _ _ _)).from _, ⟨(Below.mono K4.out HB.out.size).setCell (p := ⟨g, k * 10 + 6, none⟩) (by show w.heap.size ≤ g; omega) _, AE.out.trans HE.out.symm⟩, ⟨A4.out, A5.out, A7.out, AE.out, (by rw [hgx]; exact GS.out _ K4.out), HOK.out (by omega)⟩, (HB.out.trans (Below.mono K4.out HB.out.size)).setCell (p := ⟨g, k * 10 + 6, none⟩) (by show w.heap.size ≤ g; omega) _⟩
  case done =>
    clear b4 b5 b7 bE bF bO k3 ST
    rintro D ys W hD rfl ⟨⟨h4, h5, h7, he, hg, hok⟩, hB⟩ hK
    have c7 : W.cell? ⟨w2.heap.size, 0, none⟩ = some (.slice a2 n2 c2) := h7.cell 0
    have c4 : W.cell? ⟨w.heap.size + 1, 0, none⟩ = some (.slice none 0 0) := h4.cell 0
    have c5 : W.cell? ⟨w.heap.size + 2, 0, none⟩ = some (.int .i64 0) := h5.cell 0
    have f4 := h4.frozen 0
    have f5 := h5.frozen 0
    have H4 := Lib.hid h4
    have H5 := Lib.hid h5
    have HG := Lib.hid hg
    have HO := Lib.hid hok
    have HB := Lib.hid hB
    have HK := Lib.hid hK
    clear h4 h5 h7 he hg hok hB hK
    gi_wp2
    have P4 := (H4.out.put 0 (.slice a2 n2 c2)).away (p := ⟨w.heap.size + 2, 0, none⟩) (by show w.heap.size + 1 ≠ w.heap.size + 2; omega) (.int .i64 0)
    have P5 := (H5.out.away (p := ⟨w.heap.size + 1, 0, none⟩) (by show w.heap.size + 2 ≠ w.heap.size + 1; omega) (.slice a2 n2 c2)).put 0 (.int .i64 0)
    have PG := (HG.out.away H4.out (by decide) 0 (.slice a2 n2 c2)).away (H5.out.away (p := ⟨w.heap.size + 1, 0, none⟩) (by show w.heap.size + 2 ≠ w.heap.size + 1; omega) (.slice a2 n2 c2)) (by decide) 0 (.int .i64 0)
    have PB := (HB.out.setCell (p := ⟨w.heap.size + 1, 0, none⟩) (by show w.heap.size ≤ w.heap.size + 1; omega) (.slice a2 n2 c2)).setCell (p := ⟨w.heap.size + 2, 0, none⟩) (by show w.heap.size ≤ w.heap.size + 2; omega) (.int .i64 0)
    have hK2 : ((W.setCell ⟨w.heap.size + 1, 0, none⟩ (.slice a2 n2 c2)).setCell ⟨w.heap.size + 2, 0, none⟩ (.int .i64 0)).heap[D]? = some (.deferred (some [])) := by
      rw [Below.heap_setCell _ _ _ _ (by show D ≠ w.heap.size + 2; omega), Below.heap_setCell _ _ _ _ (by show D ≠ w.heap.size + 1; omega)]
      exact HK.out
    have Q4 := P4.own (grownBy_putObj' _ D (.deferred none)) (fun r e => by cases e; exact ⟨_, hK2, rfl⟩)
    have Q5 := P5.own (grownBy_putObj' _ D (.deferred none)) (fun r e => by cases e; exact ⟨_, hK2, rfl⟩)
    have QG := PG.own (grownBy_putObj' _ D (.deferred none)) (fun r e => by cases e; exact ⟨_, hK2, rfl⟩)
    refine ⟨by simp, .inl ⟨_, _, rfl, run_takeDeferred hK2, ?_⟩⟩
    refine ⟨_, results_cc rfl _ _ _ _ _ _ rfl rfl (Q4.cell 0) (Q5.cell 0), PB.trans (belowK_b (w := w) (Nat.le_refl _) _ D _ _ (by omega) hK2 rfl rfl), .inl ⟨_, rfl, ⟨QG.1, ?_⟩, HO.out⟩⟩
    rcases QG.2 with h | ⟨k, cap, cur, e, hk, r⟩
    · exact .inl h
    · exact .inr ⟨k, cap, cur, e, by omega, r⟩
  case stop =>
    clear b4 b5 b7 bE bF bO k3 ST
    rintro D c pre W hD hp ⟨⟨rfl, h4, h5, ini, x, rfl, hx⟩, hB⟩ hK
    have H4 := h4.own (grownBy_putObj' W D (.deferred none)) (fun r e => by cases e; exact ⟨_, hK, rfl⟩)
    have H5 := h5.own (grownBy_putObj' W D (.deferred none)) (fun r e => by cases e; exact ⟨_, hK, rfl⟩)
    gi_wp2
    refine ⟨by simp, .inl ⟨_, _, rfl, run_takeDeferred hK, ?_⟩⟩
    refine ⟨_, results_cc rfl _ _ _ _ _ _ rfl rfl (H4.cell 0) (H5.cell 0), hB.trans (belowK_b (w := w) (Nat.le_refl _) W D _ _ (by omega) hK rfl rfl), .inr ⟨rfl, ini, x, hp, hx⟩⟩

end Go.Proofs.Ytklaojahocjeiaa
