/-
  Merged: BookO, BookQ, Between, SumOf, SumOfW, BookR, LawCV.
-/
import Derived.Test.YthaahebggboliaaGreatMcv
import Derived.Test.YthaahebggboliaaGreatMg
import Derived.Test.YthaahebggboliaaGreatMd
import Derived.IntWalk
import Derived.Test.YthaahebggboliaaGreatOwn
import Derived.Test.YthaahebggboliaaGreatKept
import Derived.Test.YthaahebggboliaaGreatMb1
import Derived.Test.YthaahebggboliaaGreatMcr
-- BookO
namespace Go.Proofs.YthaahebggboliaaGreat
open Go.RowKit
set_option linter.unusedVariables false

/-- what stands above nought -/
def posP (l : List (Int × Int × Int)) : List (Int × Int × Int) := l.filter fun p => decide (0 < p.2.2)
def posS (l : List (Int × Int × Int)) (u : Nat) : Int := unitS (posP l) u
theorem posP_pt {l : List (Int × Int × Int)} (h : ∀ p ∈ l, ptB p = true) : ∀ p ∈ posP l, ptB p = true := fun p hp => h p (List.mem_filter.1 hp).1
theorem posP_len (l : List (Int × Int × Int)) : (posP l).length ≤ l.length := List.length_filter_le _ _
theorem pos_step {ps : List (Int × Int × Int)} {k : Nat} (hk : k < ps.length) (h : 0 < (ps.getD k default).2.2) (x : Nat) : posS (ps.take (k + 1)) x = posS (ps.take k) x + (if (ps.getD k default).2.1 = (x : Int) then (ps.getD k default).2.2 else 0) := by
  unfold posS posP
  rw [List.take_succ_eq_append_getElem hk, List.filter_append, unitS_append, List.getD_eq_getElem?_getD, List.getElem?_eq_getElem hk] at *
  simp only [Option.getD_some] at h ⊢
  rw [List.filter_cons_of_pos (by simpa using h)]
  simp [unitS]
theorem pos_stay {ps : List (Int × Int × Int)} {k : Nat} (hk : k < ps.length) (h : ¬ 0 < (ps.getD k default).2.2) (x : Nat) : posS (ps.take (k + 1)) x = posS (ps.take k) x := by
  unfold posS posP
  rw [List.take_succ_eq_append_getElem hk, List.filter_append, unitS_append]
  rw [List.getD_eq_getElem?_getD, List.getElem?_eq_getElem hk] at h
  simp only [Option.getD_some] at h
  rw [List.filter_cons_of_neg (by simpa using h)]
  simp [unitS]
theorem okS_pos {ps : List (Int × Int × Int)} (h : ∀ p ∈ ps, ptB p = true) (hn : ps.length ≤ 4096) (k x : Nat) : okS (posS (ps.take k) x) := by
  have h1 := unitS_bd (l := posP (ps.take k)) (posP_pt fun z hz => h z (List.mem_of_mem_take hz)) x
  have h2 := posP_len (ps.take k)
  rw [List.length_take] at h2
  exact okS_mk (k := (posP (ps.take k)).length) (by omega) h1.1 h1.2

/-- what Trial answers -/
def TrialEnd (w : World) (l : List (Int × Int × Int)) (e : Ending) (w' : World) : Prop :=
  Grew w w' ∧ ((linE l ≠ 0 ∧ e = .returned (.tuple #[.slice none 0 0, .int .i64 (linE l)])) ∨
    (linE l = 0 ∧ (((∀ u, u < 21 → amtB (posS l u) = true) ∧ ∃ g, w.heap.size ≤ g ∧ e = .returned (.tuple #[.slice (some ⟨g, 0, none⟩) 21 21, .int .i64 0]) ∧ Row w' g ((List.range 21).map (posS l))) ∨
      ((∃ u, u < 21 ∧ amtB (posS l u) = false) ∧ e = .returned (.tuple #[.slice none 0 0, .int .i64 8])))))

theorem trial_bad (v : Value) (l : List (Int × Int × Int)) (w : World) (hl : ReadsP w v l) (h : linE l ≠ 0) : Calls Tryz.prog 67 #[v] w (TrialEnd w l) := by
  have LB := Lib.hid (lines_any v l w hl)
  have HH := Lib.hid h
  have q : (linE l != 0) = true := bne_iff_ne.2 h
  clear h hl
  go_enter Tryz.func67, Tryz.ntmps67
  go_wp2_with (go_at_call 57; (with_reducible refine LB.out.mono ?_); rintro e w1 ⟨rfl, g1⟩)
  go_ret2
  exact ⟨g1, .inl ⟨HH.out, rfl⟩⟩

theorem amts_trial {w w1 w' : World} {l : List (Int × Int × Int)} {e : Ending} (h : linE l = 0) (g : Grew w w1) (k : AmtsEnd w1 21 (posS l) e w') : TrialEnd w l e w' := by
  obtain ⟨g2, r⟩ := k
  refine ⟨gtr g g2, .inr ⟨h, ?_⟩⟩
  rcases r with ⟨a, b, hb, c, d⟩ | r
  · exact .inl ⟨a, b, Nat.le_trans g.below.size hb, c, d⟩
  · exact .inr r

set_option maxHeartbeats 4000000 in
set_option maxRecDepth 100000 in
theorem trial_some (b off cap : Nat) (ps : List (Int × Int × Int)) (w : World) (hl : ReadsP w (.slice (some ⟨b, off, none⟩) ps.length cap) ps) (h : linE ps = 0) (hc : ∀ j, j < ps.length → PtAt w b (off + j * 3) (ps.getD j default)) :
    Calls Tryz.prog 67 #[.slice (some ⟨b, off, none⟩) ps.length cap] w (TrialEnd w ps) := by
  have LB := Lib.hid (h ▸ lines_any _ ps w hl)
  obtain ⟨hm, hs, -⟩ := lin_0 h
  have HC := Lib.hid hc
  have HP := Lib.hid (strict_pt hs)
  have HH := Lib.hid h
  clear hc hl hs h
  go_enter Tryz.func67, Tryz.ntmps67
  go_wp2_with (go_at_call 57; (with_reducible refine LB.out.mono ?_); rintro e w0 ⟨rfl, g0⟩; have G0 := Lib.hid g0; clear g0)
  go_loopw [15] (fun i wr => ∃ k : Nat, k ≤ ps.length ∧ i = .int .i64 k ∧ Hid (Blk wr w0.heap.size (sumsC 21 (posS (ps.take k))) 150) ∧ Hid (Grew w0 wr)) (fun i _ => ps.length - (intOf i).toNat)
  case atStart => exact ⟨0, Nat.zero_le _, rfl, sums_made w0, (Grew.refl _).alloc _ _⟩
  case round =>
    obtain ⟨k, hk, rfl, HB, HG⟩ := hrel
    by_cases hlt : k < ps.length
    · obtain ⟨c0, c1, c2⟩ := ((HC.out k hlt).grew G0.out).grew HG.out
      have hq := pt_t (HP.out _ (getP_mem hlt))
      have hst := Lib.hid (pos_step hlt)
      have hsy := Lib.hid (pos_stay hlt)
      have hok := okS_pos HP.out (by omega) k
      generalize ps.getD k default = p at c0 c1 c2 hq hst hsy
      obtain ⟨A, U, N⟩ := p
      simp only at c0 c1 c2 hq
      obtain ⟨u, rfl⟩ : ∃ u : Nat, U = (u : Int) := ⟨U.toNat, by omega⟩
      obtain ⟨-, -, -, hu, hz, hn0, hn1⟩ := hq
      have HOK := Lib.hid (hok u); clear hok
      have hu' : u < 21 := by omega
      clear hz
      by_cases hpos : 0 < N
      · have HST := Lib.hid (hst.out hpos)
        clear hst hsy
        have d0 : wr.cell? ⟨w0.heap.size, u * 2, none⟩ = some (.int .i64 (hiOf (posS (ps.take k) u))) := (HB.out.cell _).trans (sums_hi 21 _ u hu')
        have d1 : wr.cell? ⟨w0.heap.size, u * 2 + 1, none⟩ = some (.int .u64 (loOf (posS (ps.take k) u))) := (HB.out.cell _).trans (sums_lo 21 _ u hu')
        go_wp2
        have e0 : (wr.alloc (.cells #[.int .i64 A, .int .i64 (u : Int), .int .i64 N] 55)).cell? ⟨wr.heap.size, 0, none⟩ = some (.int .i64 A) := (Blk.made wr _ _).cell 0
        have e1 : (wr.alloc (.cells #[.int .i64 A, .int .i64 (u : Int), .int .i64 N] 55)).cell? ⟨wr.heap.size, 1, none⟩ = some (.int .i64 (u : Int)) := (Blk.made wr _ _).cell 1
        have e2 : (wr.alloc (.cells #[.int .i64 A, .int .i64 (u : Int), .int .i64 N] 55)).cell? ⟨wr.heap.size, 2, none⟩ = some (.int .i64 N) := (Blk.made wr _ _).cell 2
        have GA := Lib.hid (HG.out.alloc #[.int .i64 A, .int .i64 (u : Int), .int .i64 N] 55)
        have WA := Lib.hid (HB.out.alloc (.cells #[.int .i64 A, .int .i64 (u : Int), .int .i64 N] 55))
        clear d0 d1 c0 c1 c2
        generalize wr.alloc (.cells #[.int .i64 A, .int .i64 (u : Int), .int .i64 N] 55) = W1 at *
        have d0 : W1.cell? ⟨w0.heap.size, u * 2, none⟩ = some (.int .i64 (hiOf (posS (ps.take k) u))) := (WA.out.cell _).trans (sums_hi 21 _ u hu')
        have d1 : W1.cell? ⟨w0.heap.size, u * 2 + 1, none⟩ = some (.int .u64 (loOf (posS (ps.take k) u))) := (WA.out.cell _).trans (sums_lo 21 _ u hu')
        have hlt2 : w0.heap.size < wr.heap.size := HB.out.lt
        have hne : wr.heap.size ≠ w0.heap.size := by omega
        have hne' : w0.heap.size ≠ wr.heap.size := by omega
        have hu0 : (0 : Int) ≤ (u : Int) := by omega
        have hu1 : (u : Int) < 21 := by omega
        go_region_with (go_at_call 116; (with_reducible refine (plus_at (posS (ps.take k) u) N _ HOK.out (by omega) (by omega)).mono ?_); rintro e w1 ⟨rfl, g1⟩; have k1 := g1.cell (cell_in (w := W1.drew) e1) e1; have B1 := Lib.hid ((WA.out.drew).grew g1); have d2 : w1.cell? ⟨w0.heap.size, u * 2, none⟩ = some (.int .i64 (hiOf (posS (ps.take k) u))) := (B1.out.cell _).trans (sums_hi 21 _ u hu'); have d3 : w1.cell? ⟨w0.heap.size, u * 2 + 1, none⟩ = some (.int .u64 (loOf (posS (ps.take k) u))) := (B1.out.cell _).trans (sums_lo 21 _ u hu'); have f0 := B1.out.frozen (u * 2); have f1 := B1.out.frozen (u * 2 + 1); have G1 := Lib.hid (gtr GA.out.drew g1); clear g1)
        all_goals go_wp2
        all_goals go_roundw
        all_goals first
          | (case rel => exact ⟨k + 1, by omega, by go_num, unit_put hu' HST.out B1.out, (G1.out.setCell (by simp) _).setCell (by simp) _⟩)
          | (case measure => simp [intOf]; omega)
      · have HSY := Lib.hid (hsy.out hpos)
        clear hst hsy
        have hpos' : decide (0 < N) = false := decide_eq_false hpos
        have HBx : Hid (Blk wr w0.heap.size (sumsC 21 (posS (ps.take (k + 1)))) 150) := by
          unfold Hid
          rw [sums_ext (g := posS (ps.take k)) fun x _ => HSY.out x]
          exact HB.out
        go_wp2
        go_roundw
        case rel => exact ⟨k + 1, by omega, by go_num, HBx.out.alloc _, HG.out.alloc _ _⟩
        case measure => simp [intOf]; omega
    · have e : ps.take k = ps := List.take_of_length_le (by omega)
      rw [e] at HB
      clear e
      have HX := Lib.hid (fun (_ : True) => amounts_run w0.heap.size 21 21 (posS ps) _ wr (by omega) HB.out)
      have HK := Lib.hid (fun e w' => amts_trial (e := e) (w' := w') HH.out (gtr G0.out HG.out))
      go_wp2_with (go_at_call 117; (with_reducible refine (HX.out trivial).mono ?_); intro e w4 h4; have T4 := Lib.hid (HK.out e w4 h4); obtain ⟨_, ⟨_, g4, _, rfl, _⟩ | ⟨_, rfl⟩⟩ := h4)
      all_goals
        go_ret2
        exact T4.out

set_option maxRecDepth 100000 in
theorem trial_none (a : Option Addr) (cap : Nat) (w : World) :
    Calls Tryz.prog 67 #[.slice a 0 cap] w (TrialEnd w []) := by
  have LB := Lib.hid (lines_none a cap w)
  have HH : Hid (linE [] = 0) := (by decide : linE [] = 0)
  go_enter Tryz.func67, Tryz.ntmps67
  go_wp2_with (go_at_call 57; (with_reducible refine LB.out.mono ?_); rintro e w0 ⟨rfl, g0⟩; have G0 := Lib.hid g0; clear g0)
  go_loopw [15] (fun i wr => i = .int .i64 0 ∧ Hid (Blk wr w0.heap.size (sumsC 21 (posS [])) 150) ∧ Hid (Grew w0 wr)) (fun _ _ => 0)
  case atStart => exact ⟨rfl, sums_made w0, (Grew.refl _).alloc _ _⟩
  case round =>
    obtain ⟨rfl, HB, HG⟩ := hrel
    have HX := Lib.hid (fun (_ : True) => amounts_run w0.heap.size 21 21 (posS []) _ wr (by omega) HB.out)
    have HK := Lib.hid (fun e w' => amts_trial (e := e) (w' := w') HH.out (gtr G0.out HG.out))
    go_wp2_with (go_at_call 117; (with_reducible refine (HX.out trivial).mono ?_); intro e w4 h4; have T4 := Lib.hid (HK.out e w4 h4); obtain ⟨_, ⟨_, g4, _, rfl, _⟩ | ⟨_, rfl⟩⟩ := h4)
    all_goals
      go_ret2
      exact T4.out

theorem trial_any (v : Value) (l : List (Int × Int × Int)) (w : World) (hl : ReadsP w v l) : Calls Tryz.prog 67 #[v] w (TrialEnd w l) := by
  by_cases h : linE l = 0
  · rcases hl.cell with ⟨rfl, a, cap, rfl⟩ | ⟨_, b, off, cap, rfl, hc⟩
    · exact trial_none a cap w
    · exact trial_some b off cap l w hl h hc
  · exact trial_bad v l w hl h

end Go.Proofs.YthaahebggboliaaGreat

-- BookQ
namespace Go.Proofs.YthaahebggboliaaGreat
open Go.RowKit
set_option linter.unusedVariables false

theorem lit3 (w : World) (T : TypeId) (p q r : Int × Int × Int) (h : InP [p, q, r]) : ReadsP (w.alloc (.cells #[.int .i64 p.1, .int .i64 p.2.1, .int .i64 p.2.2, .int .i64 q.1, .int .i64 q.2.1, .int .i64 q.2.2, .int .i64 r.1, .int .i64 r.2.1, .int .i64 r.2.2] T)) (.slice (some ⟨w.heap.size, 0, none⟩) 3 3) [p, q, r] := by
  refine ⟨_, 3, rfl, (fun e => by cases e), by unfold maxLen; simp, h, fun j hj => ⟨w.heap.size, 0, rfl, ?_⟩⟩
  have B := Blk.made w #[.int .i64 p.1, .int .i64 p.2.1, .int .i64 p.2.2, .int .i64 q.1, .int .i64 q.2.1, .int .i64 q.2.2, .int .i64 r.1, .int .i64 r.2.1, .int .i64 r.2.2] T
  rcases (show j = 0 ∨ j = 1 ∨ j = 2 by simp at hj; omega) with rfl | rfl | rfl
  · exact ⟨B.cell 0, B.cell 1, B.cell 2⟩
  · exact ⟨B.cell 3, B.cell 4, B.cell 5⟩
  · exact ⟨B.cell 6, B.cell 7, B.cell 8⟩
/-- a post that goes, of which the book is known -/
theorem post_goes (v u : Value) (b l R : List (Int × Int × Int)) (w : World) (hb : ReadsP w v b) (hl : ReadsP w u l) (k : Posted b l R) :
    Calls Tryz.prog 65 #[v, u] w fun e w' => ∃ a cap, e = .returned (.tuple #[.slice a R.length cap, .int .i64 0]) ∧ Hid (ReadsP w' (.slice a R.length cap) R) ∧ Hid (Kpt w w') := by
  refine (post_any v u b l w hb hl).mono ?_
  rintro e w' ⟨hk, R', E, v', hr, ho, rfl⟩
  obtain ⟨rfl, rfl⟩ := post_known hr k
  obtain ⟨a, cap, rfl⟩ := ho.form
  exact ⟨a, cap, rfl, ho.reads (inP_of (strict_pt k.book.strict)), hk⟩
theorem turn_goes (v : Value) (l : List (Int × Int × Int)) (w : World) (hl : ReadsP w v l) (h : chkE l = 0) :
    Calls Tryz.prog 66 #[v] w fun e w' => ∃ a cap, e = .returned (.tuple #[.slice a l.length cap, .int .i64 0]) ∧ Hid (ReadsP w' (.slice a l.length cap) (turnP l)) ∧ Hid (Kpt w w') := by
  refine (turn_any v l w hl).mono ?_
  rintro e w' ⟨hk, ⟨h1, _⟩ | ⟨_, a, cap, ho, rfl⟩⟩
  · exact absurd h h1
  · exact ⟨a, cap, rfl, ho.reads (inP_of (turn_pt (chk_0 h).2.2.1)), hk⟩

theorem bb_post1 (w : World) (T : TypeId) : Calls Tryz.prog 65 #[.slice none 0 0, .slice (some ⟨w.heap.size, 0, none⟩) 3 3] (w.alloc (.cells #[.int .i64 2, .int .i64 0, .int .i64 5, .int .i64 1, .int .i64 0, .int .i64 (-8), .int .i64 3, .int .i64 0, .int .i64 3] T)) fun e w' => ∃ a cap, e = .returned (.tuple #[.slice a 3 cap, .int .i64 0]) ∧ Hid (ReadsP w' (.slice a 3 cap) B0) ∧ Hid (ReadsP w' (.slice (some ⟨w.heap.size, 0, none⟩) 3 3) L0) ∧ Hid (Kpt w w') := by
  have hL : ReadsP (w.alloc (.cells #[.int .i64 2, .int .i64 0, .int .i64 5, .int .i64 1, .int .i64 0, .int .i64 (-8), .int .i64 3, .int .i64 0, .int .i64 3] T)) (.slice (some ⟨w.heap.size, 0, none⟩) 3 3) L0 := lit3 w T (2, 0, 5) (1, 0, -8) (3, 0, 3) (inP_of (by decide))
  refine (post_goes _ _ [] L0 B0 _ (readsP_nil _ none 0 fun _ => rfl) hL posted_0).mono ?_
  rintro e w' ⟨a, cap, rfl, h1, h2⟩
  exact ⟨a, cap, rfl, h1, hL.kpt h2.out, ktr ((Kpt.refl w).alloc _) h2.out⟩
theorem bb_bal (v : Value) (w : World) (h : ReadsP w v B0) : Calls Tryz.prog 29 #[v, .int .i64 1, .int .i64 0] w fun e w' => e = .returned (.tuple #[.int .i64 (-8), .int .i64 0]) ∧ Hid (Kpt w w') := by
  refine (balance_any v B0 1 0 w h).mono ?_
  rintro e w' ⟨rfl, g⟩
  exact ⟨by rw [show balR B0 1 0 = -8 by decide, show balE B0 1 0 = 0 by decide], g.kpt⟩
theorem bb_turn (v : Value) (w : World) (h : ReadsP w v L0) : Calls Tryz.prog 66 #[v] w fun e w' => ∃ a cap, e = .returned (.tuple #[.slice a 3 cap, .int .i64 0]) ∧ Hid (ReadsP w' (.slice a 3 cap) T0) ∧ Hid (Kpt w w') := by
  refine (turn_goes v L0 w h chk_L0).mono ?_
  rintro e w' ⟨a, cap, rfl, h1, h2⟩
  exact ⟨a, cap, rfl, by rw [← turn_L0]; exact h1.out, h2⟩
theorem bb_post2 (v u : Value) (w : World) (h : ReadsP w v B0) (h' : ReadsP w u T0) : Calls Tryz.prog 65 #[v, u] w fun e w' => ∃ a cap, e = .returned (.tuple #[.slice a 0 cap, .int .i64 0]) ∧ Hid (Kpt w w') := by
  refine (post_goes v u B0 T0 [] w h h' posted_1).mono ?_
  rintro e w' ⟨a, cap, rfl, h1, h2⟩
  exact ⟨a, cap, rfl, h2⟩
theorem bb_trial (v : Value) (w : World) (h : ReadsP w v B0) : Calls Tryz.prog 67 #[v] w fun e w' => ∃ g, e = .returned (.tuple #[.slice (some ⟨g, 0, none⟩) 21 21, .int .i64 0]) ∧ w'.cell? ⟨g, 0, none⟩ = some (.int .i64 8) ∧ Hid (Kpt w w') := by
  refine (trial_any v B0 w h).mono ?_
  rintro e w' ⟨hg, ⟨h1, _⟩ | ⟨_, ⟨_, g, hg', rfl, hr⟩ | ⟨⟨u, hu, hx⟩, _⟩⟩⟩
  · exact absurd (by decide) h1
  · exact ⟨g, rfl, hr.cell (j := 0) (by simp), hg.kpt⟩
  · exfalso
    have : ∀ u, u < 21 → amtB (posS B0 u) = true := by decide
    rw [this u hu] at hx
    cases hx
theorem bb_post3 (v : Value) (a : Option Addr) (w : World) (h : ReadsP w v B0) (h' : ReadsP w (.slice a 3 3) L0) : Calls Tryz.prog 65 #[v, .slice a 2 3] w fun e w' => ∃ a' c', e = .returned (.tuple #[.slice a' 0 c', .int .i64 4]) ∧ Hid (Kpt w w') := by
  refine (post_any v _ B0 (L0.take 2) w h (h'.take 2 (by decide))).mono ?_
  rintro e w' ⟨hk, R, E, v', hr, ho, rfl⟩
  obtain ⟨rfl, rfl⟩ := res_2 hr
  obtain ⟨a', c', rfl⟩ := ho.form
  exact ⟨a', c', rfl, hk⟩

set_option maxRecDepth 100000 in
set_option maxHeartbeats 4000000 in
theorem bookBegun (w : World) : Calls Tryz.prog 27 #[] w fun e w' => e = .returned (.bool true) ∧ Kpt w w' := by
  have CN := Lib.hid (fun w => bookCheck_none none 0 w)
  have LN := Lib.hid (fun w => lines_none none 0 w)
  go_enter Tryz.func27, Tryz.ntmps27
  go_wp2_with (first
    | (go_at_call 65; (with_reducible refine (bb_post1 _ _).mono ?_); rintro e w1 ⟨a1, c1, rfl, B, L, G⟩)
    | (go_at_call 29; (with_reducible refine (bb_bal _ _ B.out).mono ?_); rintro e w2 ⟨rfl, k⟩; have B := Lib.hid (B.out.kpt k.out); have L := Lib.hid (L.out.kpt k.out); have G := Lib.hid (ktr G.out k.out); clear k)
    | (go_at_call 66; (with_reducible refine (bb_turn _ _ L.out).mono ?_); rintro e w3 ⟨a3, c3, rfl, T, k⟩; have B := Lib.hid (B.out.kpt k.out); have L := Lib.hid (L.out.kpt k.out); have G := Lib.hid (ktr G.out k.out); clear k)
    | (go_at_call 65; (with_reducible refine (bb_post2 _ _ _ B.out T.out).mono ?_); rintro e w4 ⟨a4, c4, rfl, k⟩; have B := Lib.hid (B.out.kpt k.out); have L := Lib.hid (L.out.kpt k.out); have T := Lib.hid (T.out.kpt k.out); have G := Lib.hid (ktr G.out k.out); clear k)
    | (go_at_call 67; (with_reducible refine (bb_trial _ _ B.out).mono ?_); rintro e w5 ⟨g5, rfl, s5, k⟩; have S5 := Lib.hid s5; clear s5; have B := Lib.hid (B.out.kpt k.out); have L := Lib.hid (L.out.kpt k.out); have T := Lib.hid (T.out.kpt k.out); have G := Lib.hid (ktr G.out k.out); clear k)
    | (go_at_call 65; (with_reducible refine (bb_post3 _ _ _ B.out L.out).mono ?_); rintro e w6 ⟨a6, c6, rfl, k⟩; have S6 := Lib.hid (k.out.cell S5.out); have s6 := S6.out; have B := Lib.hid (B.out.kpt k.out); have T := Lib.hid (T.out.kpt k.out); have G := Lib.hid (ktr G.out k.out); clear k; have BL := Lib.hid (lit3 w6 55 (1, 0, -8) (2, 0, 5) (3, 0, 3) (inP_of (by decide))))
    | (go_at_call 19; (with_reducible refine (same_any _ _ B0 _ (B.out.kpt ((Kpt.refl _).alloc _)) BL.out).mono ?_); rintro e w7 ⟨rfl, k⟩; have s7 := k.cell (((Kpt.refl _).alloc _).cell S6.out); have S7 := Lib.hid s7; have T := Lib.hid (T.out.kpt (ktr ((Kpt.refl _).alloc _) k)); have G := Lib.hid (ktr (G.out.alloc _) k); clear k B BL; have TL := Lib.hid (lit3 w7 55 (3, 0, -3) (1, 0, 8) (2, 0, -5) (inP_of (by decide))))
    | (go_at_call 19; (with_reducible refine (same_any _ _ T0 _ (T.out.kpt ((Kpt.refl _).alloc _)) TL.out).mono ?_); rintro e w8 ⟨rfl, k⟩; have s8 := k.cell (((Kpt.refl _).alloc _).cell S7.out); have G := Lib.hid (ktr (G.out.alloc _) k); clear k)
    | (go_at_call 68; (with_reducible refine (CN.out _).mono ?_); rintro e w9 ⟨rfl, k⟩; have G := Lib.hid (ktr G.out k.kpt); clear k)
    | (go_at_call 57; (with_reducible refine (LN.out _).mono ?_); rintro e w10 ⟨rfl, k⟩; have G := Lib.hid (ktr G.out k.kpt); clear k))
  go_ret
  exact ⟨rfl, G.out⟩

end Go.Proofs.YthaahebggboliaaGreat

-- Between
namespace Go.Proofs.YthaahebggboliaaGreat
open Go.RowKit
set_option linter.unusedVariables false

theorem rbtw_t (n l h : Int) (w : World) (h1 : l ≤ n) (h2 : n ≤ h) :
    Calls Tryz.prog 54 #[.int .i64 n, .int .i64 l, .int .i64 h] w fun e w' => e = .returned (.bool true) ∧ w = w' := by
  go_enter Tryz.func54, Tryz.ntmps54
  go_wp2
  go_ret
  exact ⟨rfl, rfl⟩
theorem rbtw_f (n l h : Int) (w : World) (h1 : n < l ∨ h < n) :
    Calls Tryz.prog 54 #[.int .i64 n, .int .i64 l, .int .i64 h] w fun e w' => e = .returned (.bool false) ∧ w = w' := by
  by_cases h2 : n < l
  · clear h1
    go_enter Tryz.func54, Tryz.ntmps54
    go_wp2
    go_ret
    exact ⟨rfl, rfl⟩
  · have h3 : decide (n ≤ h) = false := decide_eq_false (by omega)
    clear h1
    go_enter Tryz.func54, Tryz.ntmps54
    go_wp2
    go_ret
    exact ⟨rfl, rfl⟩
theorem rck_ok (a : Int) (w : World) (h : amtB a = true) :
    Calls Tryz.prog 73 #[.int .i64 a] w fun e w' => e = .returned (.int .i64 0) ∧ w = w' := by
  have h1 := amt_t h
  go_enter Tryz.func73, Tryz.ntmps73
  go_wp2_with (go_at_call 54; (with_reducible refine (rbtw_t _ _ _ _ (by omega) (by omega)).mono ?_); rintro e w' ⟨rfl, rfl⟩)
  go_ret
  exact ⟨rfl, rfl⟩
theorem rck_no (a : Int) (w : World) (h : amtB a = false) :
    Calls Tryz.prog 73 #[.int .i64 a] w fun e w' => e = .returned (.int .i64 3) ∧ w = w' := by
  have h1 := amt_f h
  go_enter Tryz.func73, Tryz.ntmps73
  go_wp2_with (go_at_call 54; (with_reducible refine (rbtw_f _ _ _ _ (by omega)).mono ?_); rintro e w' ⟨rfl, rfl⟩)
  go_ret
  exact ⟨rfl, rfl⟩

end Go.Proofs.YthaahebggboliaaGreat

-- SumOf
namespace Go.Proofs.YthaahebggboliaaGreat
open Go.RowKit
set_option linter.unusedVariables false

def posL (zs : List Int) : List Int := zs.filter fun z => decide (0 ≤ z)
def negL (zs : List Int) : List Int := zs.filter fun z => decide (z < 0)
theorem part_sum (zs : List Int) : (posL zs).sum + (negL zs).sum = zs.sum := by
  induction zs with
  | nil => rfl
  | cons z l ih =>
    unfold posL negL at *
    rw [List.filter_cons, List.filter_cons, List.sum_cons]
    by_cases h : 0 ≤ z
    · rw [if_pos (by simpa using h), if_neg (by simpa using h), List.sum_cons]; omega
    · rw [if_neg (by simpa using h), if_pos (by simp; omega), List.sum_cons]; omega
theorem pos_more {zs : List Int} {k : Nat} (hk : k < zs.length) (h : 0 ≤ zs.getD k 0) : posL (zs.take (k + 1)) = posL (zs.take k) ++ [zs.getD k 0] ∧ negL (zs.take (k + 1)) = negL (zs.take k) := by
  unfold posL negL
  rw [List.getD_eq_getElem?_getD, List.getElem?_eq_getElem hk] at *
  simp only [Option.getD_some] at *
  rw [List.take_succ_eq_append_getElem hk, List.filter_append, List.filter_append, List.filter_cons_of_pos (by simpa using h), List.filter_cons_of_neg (by simpa using h)]
  simp
theorem neg_more {zs : List Int} {k : Nat} (hk : k < zs.length) (h : zs.getD k 0 < 0) : negL (zs.take (k + 1)) = negL (zs.take k) ++ [zs.getD k 0] ∧ posL (zs.take (k + 1)) = posL (zs.take k) := by
  unfold posL negL
  rw [List.getD_eq_getElem?_getD, List.getElem?_eq_getElem hk] at *
  simp only [Option.getD_some] at *
  rw [List.take_succ_eq_append_getElem hk, List.filter_append, List.filter_append, List.filter_cons_of_pos (by simpa using h), List.filter_cons_of_neg (by simp; omega)]
  simp
theorem part_len (zs : List Int) (k : Nat) : (posL (zs.take k)).length ≤ zs.length ∧ (negL (zs.take k)).length ≤ zs.length := by
  have h1 := List.length_filter_le (fun z : Int => decide (0 ≤ z)) (zs.take k)
  have h2 := List.length_filter_le (fun z : Int => decide (z < 0)) (zs.take k)
  rw [List.length_take] at h1 h2
  unfold posL negL
  omega

/-- so far: what is added, what is left above nought, what is left below -/
structure Halves (T S : Int) (M L : List Int) : Prop where
  all : S + M.sum + L.sum = T
  up : ∀ z ∈ M, 0 ≤ z ∧ z ≤ 1152921504606846976
  dn : ∀ z ∈ L, -1152921504606846976 ≤ z ∧ z < 0
  lo : -2305843009213693952 ≤ S
  hi : S ≤ 2305843009213693952
theorem halves_start {zs : List Int} (ha : ∀ z ∈ zs, amtB z = true) : Halves zs.sum 0 (posL zs) (negL zs) := by
  refine ⟨by rw [Int.zero_add, part_sum], fun z hz => ?_, fun z hz => ?_, by decide, by decide⟩
  · obtain ⟨h1, h2⟩ := List.mem_filter.1 hz
    exact ⟨by simpa using h2, (amt_t (ha z h1)).2⟩
  · obtain ⟨h1, h2⟩ := List.mem_filter.1 hz
    exact ⟨(amt_t (ha z h1)).1, by simpa using h2⟩
theorem sum_up {M : List Int} (h : ∀ z ∈ M, 0 ≤ z ∧ z ≤ 1152921504606846976) : 0 ≤ M.sum := by
  induction M with
  | nil => exact Int.le_refl _
  | cons z l ih => have := ih fun x hx => h x (by simp [hx]); have := h z (by simp); rw [List.sum_cons]; omega
theorem sum_dn {M : List Int} (h : ∀ z ∈ M, -1152921504606846976 ≤ z ∧ z < 0) : M.sum ≤ 0 := by
  induction M with
  | nil => exact Int.le_refl _
  | cons z l ih => have := ih fun x hx => h x (by simp [hx]); have := h z (by simp); rw [List.sum_cons]; omega
/-- one more from above: it stays within, or it is no amount at all -/
theorem halves_up {T S z : Int} {M L : List Int} (h : Halves T S (z :: M) L) (hc : L = [] ∨ S ≤ 0) : (-2305843009213693952 ≤ S + z) ∧ ((S + z ≤ 2305843009213693952 ∧ Halves T (S + z) M L) ∨ (2305843009213693952 < S + z ∧ amtB T = false)) := by
  have hz := h.up z (by simp)
  have ha := h.all
  rw [List.sum_cons] at ha
  have hl := h.lo
  refine ⟨by omega, ?_⟩
  by_cases q : S + z ≤ 2305843009213693952
  · exact .inl ⟨q, by omega, fun x hx => h.up x (by simp [hx]), h.dn, by omega, q⟩
  · rcases hc with rfl | hc
    · have := sum_up fun x hx => h.up x (List.mem_cons_of_mem z hx)
      simp at ha
      exact .inr ⟨by omega, amt_no (by omega)⟩
    · omega
theorem halves_dn {T S z : Int} {M L : List Int} (h : Halves T S M (z :: L)) (hc : M = [] ∨ 0 < S) : (S + z ≤ 2305843009213693952) ∧ ((-2305843009213693952 ≤ S + z ∧ Halves T (S + z) M L) ∨ (S + z < -2305843009213693952 ∧ amtB T = false)) := by
  have hz := h.dn z (by simp)
  have ha := h.all
  rw [List.sum_cons] at ha
  have hl := h.hi
  refine ⟨by omega, ?_⟩
  by_cases q : -2305843009213693952 ≤ S + z
  · exact .inl ⟨q, by omega, h.up, fun x hx => h.dn x (by simp [hx]), q, by omega⟩
  · rcases hc with rfl | hc
    · have := sum_dn fun x hx => h.dn x (List.mem_cons_of_mem z hx)
      simp at ha
      exact .inr ⟨by omega, amt_no (by omega)⟩
    · omega
theorem halves_end {T S : Int} (h : Halves T S [] []) : S = T := by have := h.all; simpa using this

/-- a slice that is long enough, and reads as a list -/
def RdsN (w : World) (v : Value) (zs : List Int) : Prop := ∃ (a : Option Addr) (cap : Nat), v = .slice a zs.length cap ∧ zs.length ≤ cap ∧ cap ≤ maxLen ∧ Reads w v zs
theorem RdsN.kpt {w w' : World} {v : Value} {zs : List Int} (h : RdsN w v zs) (g : Kpt w w') : RdsN w' v zs := by
  obtain ⟨a, c, e, hc, hm, hr⟩ := h
  exact ⟨a, c, e, hc, hm, hr.kpt g⟩
theorem Owns.rdsN {w : World} {base : Nat} {v : Value} {zs : List Int} (h : Owns w base v zs) : RdsN w v zs := by
  obtain ⟨a, cap, hv, hr⟩ := h.reads
  refine ⟨a, cap, hv, ?_, ?_, hr⟩
  all_goals
    rcases h.2 with ⟨e, hn⟩ | ⟨k, cap', cur, e, hk, hh, hn, hm, _⟩
    · rw [hv] at e; injection e with _ _ e; omega
    · rw [hv] at e; injection e with _ _ e; omega
theorem RdsN.slot {w : World} {v : Value} {zs : List Int} (h : RdsN w v zs) : ∃ (a : Option Addr) (n cap : Nat), v = .slice a n cap ∧ Hid (n = zs.length) ∧ n ≤ 9223372036854775807 := by
  obtain ⟨a, cap, rfl, h1, h2, hr⟩ := h
  exact ⟨a, _, cap, rfl, rfl, by unfold maxLen at h2; omega⟩
theorem RdsN.parts {w : World} {v : Value} {z : Int} {zs : List Int} (h : RdsN w v (z :: zs)) : ∃ (b off n cap : Nat), v = .slice (some ⟨b, off, none⟩) n cap ∧ Hid (n = zs.length + 1) ∧ 0 < n ∧ n ≤ cap ∧ n ≤ 9223372036854775807 ∧ cap ≤ 9223372036854775807 ∧ w.cell? ⟨b, off, none⟩ = some (.int .i64 z) ∧ (cap = 1 → n = 1 ∧ Hid (zs = [])) ∧ (cap ≠ 1 → Hid (RdsN w (.slice (some ⟨b, off + 1, none⟩) (n - 1) (cap - 1)) zs)) := by
  obtain ⟨a, cap, rfl, hcap, hcm, hr⟩ := h
  have hl := hr.len
  unfold maxLen at hl hcm
  rcases hr.cell with ⟨e, _⟩ | ⟨_, b, off, cap', e, hc⟩
  · cases e
  · injection e with e1 e2 e3
    subst e1; subst e3
    have hl' : zs.length + 1 ≤ cap := hcap
    refine ⟨b, off, zs.length + 1, cap, rfl, rfl, by omega, by omega, by simp at hl; omega, by omega, hc 0 (by simp), fun e => ⟨by omega, List.eq_nil_of_length_eq_zero (by omega)⟩, fun e => ?_⟩
    refine ⟨_, cap - 1, rfl, by omega, by unfold maxLen; omega, ?_⟩
    by_cases hz : zs = []
    · subst hz; exact reads_nil _ _ _
    · have : 0 < zs.length := List.length_pos_iff.2 hz
      refine reads_mk rfl (by unfold maxLen; simp at hl; omega) fun j hj => ?_
      have := hc (j + 1) (by simpa using hj)
      rw [show off + 1 + j = off + (j + 1) by omega]
      simpa using this
theorem RdsN.empty {w : World} {v : Value} (h : RdsN w v []) : ∃ (a : Option Addr) (cap : Nat), v = .slice a 0 cap := by
  obtain ⟨a, cap, rfl, _⟩ := h
  exact ⟨a, cap, rfl⟩
theorem RdsN.cut {w : World} {a : Option Addr} {n cap : Nat} {M : List Int} (h : RdsN w (.slice a n cap) M) (h0 : n ≠ 0) : ∃ (b off : Nat) (z : Int) (M' : List Int), a = some ⟨b, off, none⟩ ∧ Hid (M = z :: M') ∧ n ≤ cap ∧ cap ≤ 9223372036854775807 ∧ w.cell? ⟨b, off, none⟩ = some (.int .i64 z) ∧ (cap = 1 → n = 1 ∧ Hid (M' = [])) ∧ (cap ≠ 1 → Hid (RdsN w (.slice (some ⟨b, off + 1, none⟩) (n - 1) (cap - 1)) M')) := by
  cases M with
  | nil =>
    obtain ⟨a', c', e⟩ := h.empty
    injection e with _ e _
    exact absurd e h0
  | cons z M' =>
    obtain ⟨b, off, n', cap', e, h1, h2, h3, h4, h5, h6, h7, h8⟩ := h.parts
    injection e with e1 e2 e3
    subst e1; subst e2; subst e3
    exact ⟨b, off, z, M', rfl, rfl, h3, h5, h6, h7, h8⟩
theorem RdsN.nil {w : World} {a : Option Addr} {n cap : Nat} {M : List Int} (h : RdsN w (.slice a n cap) M) (h0 : n = 0) : M = [] := by
  obtain ⟨a', c', e, _⟩ := h
  injection e with _ e _
  exact List.eq_nil_of_length_eq_zero (by omega)
theorem rdsN_nil (w : World) (a : Option Addr) (cap : Nat) (h : cap ≤ 9223372036854775807) : RdsN w (.slice a 0 cap) [] := ⟨a, cap, rfl, Nat.zero_le _, by unfold maxLen; omega, reads_nil _ _ _⟩
/-- what SumOf answers -/
def RSumRes (w : World) (S : Int) (e : Ending) (w' : World) : Prop :=
  Kpt w w' ∧ ((amtB S = true ∧ e = .returned (.tuple #[.int .i64 S, .bool true])) ∨ (amtB S = false ∧ ∃ r : Int, e = .returned (.tuple #[.int .i64 r, .bool false])))

end Go.Proofs.YthaahebggboliaaGreat

-- SumOfW
namespace Go.Proofs.YthaahebggboliaaGreat
open Go.RowKit
set_option linter.unusedVariables false

def sliceLen : Value → Nat
  | .slice _ n _ => n
  | _ => 0
def Fork (w w' : World) (m l : Value) (M L : List Int) : Prop := Owns w' w.heap.size m M ∧ Owns w' w.heap.size l L ∧ Apart m l ∧ Apart l m

set_option maxRecDepth 100000 in
set_option maxHeartbeats 2000000 in
theorem sumOf_any (v : Value) (zs : List Int) (w : World) (hr : Reads w v zs) (hm : zs.length ≤ 1000) (ha : ∀ z ∈ zs, amtB z = true) :
    Calls Tryz.prog 30 #[v] w (RSumRes w zs.sum) := by
  have HC : Hid (∀ k, k < zs.length → ∃ b off, v = .slice (some ⟨b, off, none⟩) zs.length (match v with | .slice _ _ c => c | _ => 0) ∧ w.cell? ⟨b, off + k, none⟩ = some (.int .i64 (zs.getD k 0))) := by
    intro k hk
    rcases hr.cell with ⟨rfl, _⟩ | ⟨_, b, off, cap, rfl, hc⟩
    · simp at hk
    · exact ⟨b, off, rfl, hc k hk⟩
  obtain ⟨a, cap, rfl, -⟩ := id hr
  simp only at HC
  have HS := Lib.hid (halves_start ha)
  have PL := Lib.hid (part_len zs)
  obtain ⟨T, hT⟩ : ∃ T, T = zs.sum := ⟨_, rfl⟩
  rw [← hT] at HS ⊢
  clear hr ha hT
  go_enter Tryz.func30, Tryz.ntmps30
  go_wp2
  go_loopw [4, 5, 6] (fun m l i wr => ∃ k : Nat, k ≤ zs.length ∧ i = .int .i64 k ∧ Hid (Fork w wr m l (posL (zs.take k)) (negL (zs.take k))) ∧ Hid (Kpt w wr)) (fun _ _ i _ => zs.length - (intOf i).toNat)
  case atStart => exact ⟨0, Nat.zero_le _, rfl, ⟨Owns.nil _ _, Owns.nil _ _, .inl rfl, .inl rfl⟩, Kpt.refl _⟩
  case round =>
    obtain ⟨k, hk, rfl, HF, HK⟩ := hrel
    by_cases hlt : k < zs.length
    · obtain ⟨b, off, e, hc⟩ := HC.out k hlt
      injection e with e1 _ _
      subst e1
      have c0 := HK.out.cell hc
      have hp := Lib.hid (pos_more hlt)
      have hn := Lib.hid (neg_more hlt)
      have hl := Lib.hid (PL.out k)
      clear hc
      generalize zs.getD k 0 = z at c0 hp hn
      have k0 : (0 : Int) ≤ (k : Int) := by omega
      have k1 : (k : Int) < (zs.length : Int) := by omega
      by_cases hz : 0 ≤ z
      · have HX := Lib.hid (hp.out hz)
        clear hp hn
        go_wp2_with (at_builtin; refine wp_append2 rfl (.tmp 19) (.tmp 24) rfl w.heap.size _ _ z wr rfl HF.out.1 rfl (by have := hl.out.1; omega) HK.out.size _ _ HF.out.2.1 HF.out.2.2.2 ?_; intro v' w' h1 h2 h3 h4 h5; have HF' : Hid (Fork w w' v' u5 (posL (zs.take (k + 1))) (negL (zs.take (k + 1)))) := (by unfold Hid; rw [HX.out.1, HX.out.2]; exact ⟨h1, h3, h5, h4⟩); have HK' : Hid (Kpt w w') := Below.trans HK.out h2; clear h1 h2 h3 h4 h5)
        go_roundw
        case rel => exact ⟨k + 1, by omega, by go_num, HF'.out, HK'.out⟩
        case measure => simp [intOf]; omega
      · have hz' : decide (0 ≤ z) = false := decide_eq_false hz
        have HX := Lib.hid (hn.out (by omega))
        clear hp hn
        go_wp2_with (at_builtin; refine wp_append2 rfl (.tmp 26) (.tmp 31) rfl w.heap.size _ _ z wr rfl HF.out.2.1 rfl (by have := hl.out.2; omega) HK.out.size _ _ HF.out.1 HF.out.2.2.1 ?_; intro v' w' h1 h2 h3 h4 h5; have HF' : Hid (Fork w w' u4 v' (posL (zs.take (k + 1))) (negL (zs.take (k + 1)))) := (by unfold Hid; rw [HX.out.1, HX.out.2]; exact ⟨h3, h1, h4, h5⟩); have HK' : Hid (Kpt w w') := Below.trans HK.out h2; clear h1 h2 h3 h4 h5)
        go_roundw
        case rel => exact ⟨k + 1, by omega, by go_num, HF'.out, HK'.out⟩
        case measure => simp [intOf]; omega
    · have e : zs.take k = zs := List.take_of_length_le (by omega)
      rw [e] at HF
      clear e
      have HM := Lib.hid HF.out.1.rdsN
      have HL := Lib.hid HF.out.2.1.rdsN
      have PN : Hid ((posL zs).length + (negL zs).length ≤ 2000) := by
        have h := PL.out zs.length
        rw [List.take_length] at h
        unfold Hid
        omega
      clear HF PL
      go_wp2
      go_loopw [4, 5, 7] (fun m l s wr2 => ∃ (M L : List Int) (S : Int), s = .int .i64 S ∧ Hid (RdsN wr2 m M) ∧ Hid (RdsN wr2 l L) ∧ Hid (Halves T S M L) ∧ M.length + L.length ≤ 2000 ∧ Hid (Kpt w wr2)) (fun m l _ _ => sliceLen m + sliceLen l)
      case atStart => exact ⟨_, _, 0, rfl, HM.out, HL.out, HS.out, PN.out, HK.out⟩
      case round =>
        obtain ⟨M, L, S, rfl, HM, HL, HS2, hn, HK2⟩ := hrel
        obtain ⟨am, nm, cm, rfl, EM, bm⟩ := HM.out.slot
        obtain ⟨al, nl, cl, rfl, EL, bl⟩ := HL.out.slot
        have bsum : nm + nl ≤ 2000 := by rw [EM.out, EL.out]; exact hn
        have HN := Lib.hid hn
        clear hn
        have bs := HS2.out.lo; have bs' := HS2.out.hi
        by_cases h0 : nm = 0
        · have HM0 := Lib.hid (HM.out.nil h0)
          subst h0
          by_cases h1 : nl = 0
          · have HL0 := Lib.hid (HL.out.nil h1)
            subst h1
            have HT : Hid (S = T) := halves_end (by have := HS2.out; rw [HM0.out, HL0.out] at this; exact this)
            have e := HT.out
            clear HT
            subst e
            cases hA : amtB S with
            | true =>
              have AC := Lib.hid (fun W => rck_ok S W hA)
              have HA := Lib.hid hA
              clear hA
              go_wp2_with (go_at_call 73; (with_reducible refine (AC.out _).mono ?_); rintro e w' ⟨rfl, rfl⟩)
              go_ret2
              exact ⟨HK2.out, .inl ⟨HA.out, rfl⟩⟩
            | false =>
              have AC := Lib.hid (fun W => rck_no S W hA)
              have HA := Lib.hid hA
              clear hA
              go_wp2_with (go_at_call 73; (with_reducible refine (AC.out _).mono ?_); rintro e w' ⟨rfl, rfl⟩)
              go_ret2
              exact ⟨HK2.out, .inr ⟨HA.out, S, rfl⟩⟩
          · have n1 : ((nl : Int) == 0) = false := beq_eq_false_iff_ne.2 (by omega)
            have n2 : 0 < nl := by omega
            obtain ⟨b, off, z, R, rfl, HE, hcap, hcm, c0, hone, hmore⟩ := HL.out.cut h1
            have HU := halves_dn (z := z) (L := R) (by rw [← HE.out]; exact HS2.out) (.inl HM0.out)
            have hz := HS2.out.dn z (by rw [HE.out]; simp)
            by_cases c1 : cl = 1
            · obtain ⟨u1, hmz⟩ := hone c1
              subst c1; subst u1
              clear hone hmore
              obtain ⟨q1, ⟨q2, HH⟩ | ⟨q2, HB⟩⟩ := HU
              · have HH2 := Lib.hid HH; clear HH
                go_wp2_with (go_at_call 54; (with_reducible refine (rbtw_t _ _ _ _ (by omega) (by omega)).mono ?_); rintro e w' ⟨rfl, rfl⟩)
                go_roundw
                case rel => exact ⟨M, R, S + z, rfl, HM.out, (by unfold Hid; rw [hmz.out]; exact rdsN_nil _ _ _ (by omega)), HH2.out, (by have := HN.out; rw [HE.out] at this; simp at this; omega), HK2.out⟩
                case measure => first | (simp [sliceLen]; done) | (simp [sliceLen]; omega)
              · have HB2 := Lib.hid HB; clear HB
                go_wp2_with (go_at_call 54; (with_reducible refine (rbtw_f _ _ _ _ (by omega)).mono ?_); rintro e w' ⟨rfl, rfl⟩)
                all_goals
                  go_ret2
                  exact ⟨HK2.out, .inr ⟨HB2.out, 0, rfl⟩⟩
            · have HMo := hmore c1
              clear hone hmore
              obtain ⟨q1, ⟨q2, HH⟩ | ⟨q2, HB⟩⟩ := HU
              · have HH2 := Lib.hid HH; clear HH
                go_wp2_with (go_at_call 54; (with_reducible refine (rbtw_t _ _ _ _ (by omega) (by omega)).mono ?_); rintro e w' ⟨rfl, rfl⟩)
                go_roundw
                case rel => exact ⟨M, R, S + z, rfl, HM.out, HMo.out, HH2.out, (by have := HN.out; rw [HE.out] at this; simp at this; omega), HK2.out⟩
                case measure => first | (simp [sliceLen]; done) | (simp [sliceLen]; omega)
              · have HB2 := Lib.hid HB; clear HB
                go_wp2_with (go_at_call 54; (with_reducible refine (rbtw_f _ _ _ _ (by omega)).mono ?_); rintro e w' ⟨rfl, rfl⟩)
                all_goals
                  go_ret2
                  exact ⟨HK2.out, .inr ⟨HB2.out, 0, rfl⟩⟩
        · by_cases h1 : nl = 0
          · have HL0 := Lib.hid (HL.out.nil h1)
            subst h1
            have n2 : 0 < nm := by omega
            obtain ⟨b, off, z, R, rfl, HE, hcap, hcm, c0, hone, hmore⟩ := HM.out.cut h0
            have HU := halves_up (z := z) (M := R) (by rw [← HE.out]; exact HS2.out) (.inl HL0.out)
            have hz := HS2.out.up z (by rw [HE.out]; simp)
            by_cases c1 : cm = 1
            · obtain ⟨u1, hmz⟩ := hone c1
              subst c1; subst u1
              clear hone hmore
              obtain ⟨q1, ⟨q2, HH⟩ | ⟨q2, HB⟩⟩ := HU
              · have HH2 := Lib.hid HH; clear HH
                go_wp2_with (go_at_call 54; (with_reducible refine (rbtw_t _ _ _ _ (by omega) (by omega)).mono ?_); rintro e w' ⟨rfl, rfl⟩)
                go_roundw
                case rel => exact ⟨R, L, S + z, rfl, (by unfold Hid; rw [hmz.out]; exact rdsN_nil _ _ _ (by omega)), HL.out, HH2.out, (by have := HN.out; rw [HE.out] at this; simp at this; omega), HK2.out⟩
                case measure => first | (simp [sliceLen]; done) | (simp [sliceLen]; omega)
              · have HB2 := Lib.hid HB; clear HB
                go_wp2_with (go_at_call 54; (with_reducible refine (rbtw_f _ _ _ _ (by omega)).mono ?_); rintro e w' ⟨rfl, rfl⟩)
                all_goals
                  go_ret2
                  exact ⟨HK2.out, .inr ⟨HB2.out, 0, rfl⟩⟩
            · have HMo := hmore c1
              clear hone hmore
              obtain ⟨q1, ⟨q2, HH⟩ | ⟨q2, HB⟩⟩ := HU
              · have HH2 := Lib.hid HH; clear HH
                go_wp2_with (go_at_call 54; (with_reducible refine (rbtw_t _ _ _ _ (by omega) (by omega)).mono ?_); rintro e w' ⟨rfl, rfl⟩)
                go_roundw
                case rel => exact ⟨R, L, S + z, rfl, HMo.out, HL.out, HH2.out, (by have := HN.out; rw [HE.out] at this; simp at this; omega), HK2.out⟩
                case measure => first | (simp [sliceLen]; done) | (simp [sliceLen]; omega)
              · have HB2 := Lib.hid HB; clear HB
                go_wp2_with (go_at_call 54; (with_reducible refine (rbtw_f _ _ _ _ (by omega)).mono ?_); rintro e w' ⟨rfl, rfl⟩)
                all_goals
                  go_ret2
                  exact ⟨HK2.out, .inr ⟨HB2.out, 0, rfl⟩⟩
          · have n1 : ((nl : Int) == 0) = false := beq_eq_false_iff_ne.2 (by omega)
            have n2 : 0 < nm := by omega
            have n3 : 0 < nl := by omega
            have n4 : (0 : Int) < (nm : Int) := by omega
            by_cases hs : S ≤ 0
            · obtain ⟨b, off, z, R, rfl, HE, hcap, hcm, c0, hone, hmore⟩ := HM.out.cut h0
              have HU := halves_up (z := z) (M := R) (by rw [← HE.out]; exact HS2.out) (.inr hs)
              have hz := HS2.out.up z (by rw [HE.out]; simp)
              by_cases c1 : cm = 1
              · obtain ⟨u1, hmz⟩ := hone c1
                subst c1; subst u1
                clear hone hmore
                obtain ⟨q1, ⟨q2, HH⟩ | ⟨q2, HB⟩⟩ := HU
                · have HH2 := Lib.hid HH; clear HH
                  go_wp2_with (go_at_call 54; (with_reducible refine (rbtw_t _ _ _ _ (by omega) (by omega)).mono ?_); rintro e w' ⟨rfl, rfl⟩)
                  go_roundw
                  case rel => exact ⟨R, L, S + z, rfl, (by unfold Hid; rw [hmz.out]; exact rdsN_nil _ _ _ (by omega)), HL.out, HH2.out, (by have := HN.out; rw [HE.out] at this; simp at this; omega), HK2.out⟩
                  case measure => first | (simp [sliceLen]; done) | (simp [sliceLen]; omega)
                · have HB2 := Lib.hid HB; clear HB
                  go_wp2_with (go_at_call 54; (with_reducible refine (rbtw_f _ _ _ _ (by omega)).mono ?_); rintro e w' ⟨rfl, rfl⟩)
                  all_goals
                    go_ret2
                    exact ⟨HK2.out, .inr ⟨HB2.out, 0, rfl⟩⟩
              · have HMo := hmore c1
                clear hone hmore
                obtain ⟨q1, ⟨q2, HH⟩ | ⟨q2, HB⟩⟩ := HU
                · have HH2 := Lib.hid HH; clear HH
                  go_wp2_with (go_at_call 54; (with_reducible refine (rbtw_t _ _ _ _ (by omega) (by omega)).mono ?_); rintro e w' ⟨rfl, rfl⟩)
                  go_roundw
                  case rel => exact ⟨R, L, S + z, rfl, HMo.out, HL.out, HH2.out, (by have := HN.out; rw [HE.out] at this; simp at this; omega), HK2.out⟩
                  case measure => first | (simp [sliceLen]; done) | (simp [sliceLen]; omega)
                · have HB2 := Lib.hid HB; clear HB
                  go_wp2_with (go_at_call 54; (with_reducible refine (rbtw_f _ _ _ _ (by omega)).mono ?_); rintro e w' ⟨rfl, rfl⟩)
                  all_goals
                    go_ret2
                    exact ⟨HK2.out, .inr ⟨HB2.out, 0, rfl⟩⟩
            · have hs' : decide (S ≤ 0) = false := decide_eq_false hs
              obtain ⟨b, off, z, R, rfl, HE, hcap, hcm, c0, hone, hmore⟩ := HL.out.cut h1
              have HU := halves_dn (z := z) (L := R) (by rw [← HE.out]; exact HS2.out) (.inr (by omega))
              have hz := HS2.out.dn z (by rw [HE.out]; simp)
              by_cases c1 : cl = 1
              · obtain ⟨u1, hmz⟩ := hone c1
                subst c1; subst u1
                clear hone hmore
                obtain ⟨q1, ⟨q2, HH⟩ | ⟨q2, HB⟩⟩ := HU
                · have HH2 := Lib.hid HH; clear HH
                  go_wp2_with (go_at_call 54; (with_reducible refine (rbtw_t _ _ _ _ (by omega) (by omega)).mono ?_); rintro e w' ⟨rfl, rfl⟩)
                  go_roundw
                  case rel => exact ⟨M, R, S + z, rfl, HM.out, (by unfold Hid; rw [hmz.out]; exact rdsN_nil _ _ _ (by omega)), HH2.out, (by have := HN.out; rw [HE.out] at this; simp at this; omega), HK2.out⟩
                  case measure => first | (simp [sliceLen]; done) | (simp [sliceLen]; omega)
                · have HB2 := Lib.hid HB; clear HB
                  go_wp2_with (go_at_call 54; (with_reducible refine (rbtw_f _ _ _ _ (by omega)).mono ?_); rintro e w' ⟨rfl, rfl⟩)
                  all_goals
                    go_ret2
                    exact ⟨HK2.out, .inr ⟨HB2.out, 0, rfl⟩⟩
              · have HMo := hmore c1
                clear hone hmore
                obtain ⟨q1, ⟨q2, HH⟩ | ⟨q2, HB⟩⟩ := HU
                · have HH2 := Lib.hid HH; clear HH
                  go_wp2_with (go_at_call 54; (with_reducible refine (rbtw_t _ _ _ _ (by omega) (by omega)).mono ?_); rintro e w' ⟨rfl, rfl⟩)
                  go_roundw
                  case rel => exact ⟨M, R, S + z, rfl, HM.out, HMo.out, HH2.out, (by have := HN.out; rw [HE.out] at this; simp at this; omega), HK2.out⟩
                  case measure => first | (simp [sliceLen]; done) | (simp [sliceLen]; omega)
                · have HB2 := Lib.hid HB; clear HB
                  go_wp2_with (go_at_call 54; (with_reducible refine (rbtw_f _ _ _ _ (by omega)).mono ?_); rintro e w' ⟨rfl, rfl⟩)
                  all_goals
                    go_ret2
                    exact ⟨HK2.out, .inr ⟨HB2.out, 0, rfl⟩⟩

end Go.Proofs.YthaahebggboliaaGreat

-- BookR
namespace Go.Proofs.YthaahebggboliaaGreat
open Go.RowKit
set_option linter.unusedVariables false

/-- what stands below nought, the other way round -/
def negU (l : List (Int × Int × Int)) (u : Nat) : List Int := (l.filter fun p => decide (p.2.1 = (u : Int)) && decide (p.2.2 < 0)).map fun p => -p.2.2
/-- the amounts of a place -/
def amtsOf (l : List (Int × Int × Int)) (a u : Int) : List Int := (l.filter fun p => decide (p.1 = a) && decide (p.2.1 = u)).map fun p => p.2.2

theorem take_one {l : List (Int × Int × Int)} {k : Nat} (hk : k < l.length) : l.take (k + 1) = l.take k ++ [l.getD k default] := by
  rw [List.take_succ_eq_append_getElem hk, List.getD_eq_getElem?_getD, List.getElem?_eq_getElem hk]; rfl
theorem negU_more {l : List (Int × Int × Int)} {k : Nat} (hk : k < l.length) (u : Nat) (h1 : (l.getD k default).2.1 = (u : Int)) (h2 : (l.getD k default).2.2 < 0) : negU (l.take (k + 1)) u = negU (l.take k) u ++ [-(l.getD k default).2.2] := by
  unfold negU
  have e := take_one hk
  generalize l.getD k default = q at *
  rw [e, List.filter_append, List.filter_cons_of_pos (by simp [h1, h2]), List.map_append]
  rfl
theorem negU_stay {l : List (Int × Int × Int)} {k : Nat} (hk : k < l.length) (u : Nat) (h : ¬ ((l.getD k default).2.1 = (u : Int) ∧ (l.getD k default).2.2 < 0)) : negU (l.take (k + 1)) u = negU (l.take k) u := by
  unfold negU
  have e := take_one hk
  generalize l.getD k default = q at *
  rw [e, List.filter_append, List.filter_cons_of_neg (by simpa using h)]
  simp
theorem amtsOf_more {l : List (Int × Int × Int)} {k : Nat} (hk : k < l.length) (a u : Int) (h1 : (l.getD k default).1 = a) (h2 : (l.getD k default).2.1 = u) : amtsOf (l.take (k + 1)) a u = amtsOf (l.take k) a u ++ [(l.getD k default).2.2] := by
  unfold amtsOf
  have e := take_one hk
  generalize l.getD k default = q at *
  rw [e, List.filter_append, List.filter_cons_of_pos (by simp [h1, h2]), List.map_append]
  rfl
theorem amtsOf_stay {l : List (Int × Int × Int)} {k : Nat} (hk : k < l.length) (a u : Int) (h : ¬ ((l.getD k default).1 = a ∧ (l.getD k default).2.1 = u)) : amtsOf (l.take (k + 1)) a u = amtsOf (l.take k) a u := by
  unfold amtsOf
  have e := take_one hk
  generalize l.getD k default = q at *
  rw [e, List.filter_append, List.filter_cons_of_neg (by simpa using h)]
  simp
theorem negU_sum {l : List (Int × Int × Int)} (u : Nat) : posS l u - (negU l u).sum = unitS l u := by
  induction l with
  | nil => rfl
  | cons p l ih =>
    unfold posS posP negU at *
    rw [List.filter_cons, List.filter_cons, unitS]
    by_cases h1 : p.2.1 = (u : Int)
    · by_cases h2 : 0 < p.2.2
      · rw [if_pos (by simpa using h2), if_neg (by simp; omega), unitS, if_pos h1]; omega
      · by_cases h3 : p.2.2 < 0
        · rw [if_neg (by simpa using h2), if_pos (by simp [h1, h3]), List.map_cons, List.sum_cons, if_pos h1]; omega
        · rw [if_neg (by simpa using h2), if_neg (by simp; omega), if_pos h1]; omega
    · by_cases h2 : 0 < p.2.2
      · rw [if_pos (by simpa using h2), if_neg (by simp [h1]), unitS, if_neg h1]; omega
      · rw [if_neg (by simpa using h2), if_neg (by simp [h1]), if_neg h1]; omega
theorem amtsOf_sum (l : List (Int × Int × Int)) (a u : Int) : (amtsOf l a u).sum = sumAt l a u := by
  induction l with
  | nil => rfl
  | cons p l ih =>
    unfold amtsOf at *
    rw [List.filter_cons, sumAt]
    by_cases h : p.1 = a ∧ p.2.1 = u
    · rw [if_pos (by simp [h.1, h.2]), if_pos h, List.map_cons, List.sum_cons]; omega
    · rw [if_neg (by simpa using h), if_neg h]; omega
theorem negU_len (l : List (Int × Int × Int)) (k u : Nat) : (negU (l.take k) u).length ≤ l.length := by
  unfold negU
  rw [List.length_map]
  have h := List.length_filter_le (fun p : Int × Int × Int => decide (p.2.1 = (u : Int)) && decide (p.2.2 < 0)) (l.take k)
  rw [List.length_take] at h
  omega
theorem amtsOf_len (l : List (Int × Int × Int)) (k : Nat) (a u : Int) : (amtsOf (l.take k) a u).length ≤ l.length := by
  unfold amtsOf
  rw [List.length_map]
  have h := List.length_filter_le (fun p : Int × Int × Int => decide (p.1 = a) && decide (p.2.1 = u)) (l.take k)
  rw [List.length_take] at h
  omega
theorem negU_amt {l : List (Int × Int × Int)} (h : ∀ p ∈ l, ptB p = true) (u : Nat) : ∀ z ∈ negU l u, amtB z = true := fun z hz => by
  obtain ⟨p, hp, rfl⟩ := List.mem_map.1 hz
  have := pt_t (h p (List.mem_filter.1 hp).1)
  exact amt_mk (by omega) (by omega)
theorem amtsOf_amt {l : List (Int × Int × Int)} (h : ∀ p ∈ l, ptB p = true) (a u : Int) : ∀ z ∈ amtsOf l a u, amtB z = true := fun z hz => by
  obtain ⟨p, hp, rfl⟩ := List.mem_map.1 hz
  have := pt_t (h p (List.mem_filter.1 hp).1)
  exact amt_mk (by omega) (by omega)
/-- the balances of the first accounts -/
def balsOf (l : List (Int × Int × Int)) (u k : Nat) : List Int := (List.range k).map fun a : Nat => sumAt l (a : Int) (u : Int)
theorem balsOf_more (l : List (Int × Int × Int)) (u k : Nat) : balsOf l u (k + 1) = balsOf l u k ++ [sumAt l (k : Int) (u : Int)] := by
  unfold balsOf
  rw [List.range_succ, List.map_append]
  rfl
theorem balsOf_len (l : List (Int × Int × Int)) (u k : Nat) : (balsOf l u k).length = k := by simp [balsOf]
theorem balsOf_sum (l : List (Int × Int × Int)) (u k : Nat) : (balsOf l u k).sum = accS l u k := by
  induction k with
  | zero => rfl
  | succ k ih => rw [balsOf_more, List.sum_append, ih, accS]; simp
theorem strict_amt {l : List (Int × Int × Int)} (h : Strict (-1) l) (a u : Int) : amtB (sumAt l a u) = true := by
  by_cases hq : ∃ q ∈ l, q.1 = a ∧ q.2.1 = u
  · obtain ⟨q, hq, rfl, rfl⟩ := hq
    rw [sumAt_mem h hq]
    exact amt_mk (pt_t (strict_pt h q hq)).2.2.2.2.2.1 (pt_t (strict_pt h q hq)).2.2.2.2.2.2
  · rw [sumAt_none fun q hq' e => hq ⟨q, hq', e⟩]; decide
theorem balsOf_amt {l : List (Int × Int × Int)} (h : Strict (-1) l) (u k : Nat) : ∀ z ∈ balsOf l u k, amtB z = true := fun z hz => by
  obtain ⟨a, _, rfl⟩ := List.mem_map.1 hz
  exact strict_amt h _ _

theorem Owns.kpt {w w' : World} {base : Nat} {v : Value} {zs : List Int} (h : Owns w base v zs) (g : Kpt w w') : Owns w' base v zs := h.below g (Nat.le_refl _)
theorem Row.kpt {w w' : World} {g : Nat} {zs : List Int} (h : Row w g zs) (k : Kpt w w') : Row w' g zs := h.below k h.lt
/-- a sum that is an amount, of a list of the call's own -/
theorem sumOf_own {w : World} {base : Nat} (v : Value) (zs : List Int) (S : Int) (h : Owns w base v zs) (hm : zs.length ≤ 1000) (ha : ∀ z ∈ zs, amtB z = true) (hS : zs.sum = S) (hA : amtB S = true) :
    Calls Tryz.prog 30 #[v] w fun e w' => e = .returned (.tuple #[.int .i64 S, .bool true]) ∧ Kpt w w' := by
  obtain ⟨_, _, _, hr⟩ := h.reads
  refine (sumOf_any v zs w hr hm ha).mono ?_
  rintro e w' ⟨hk, ⟨_, rfl⟩ | ⟨hx, _⟩⟩
  · exact ⟨by rw [hS], hk⟩
  · rw [hS, hA] at hx; cases hx

end Go.Proofs.YthaahebggboliaaGreat

-- LawCV
namespace Go.Proofs.YthaahebggboliaaGreat
open Go.RowKit Go.Sort Go.Lib
set_option linter.unusedVariables false

set_option maxRecDepth 100000 in
set_option maxHeartbeats 8000000 in
theorem cev_no (W X T ac un : Int) (ah at' a ab : Option Addr) (nh ch nt ct n c nb cb : Nat) (pv : Value) (w : World) (E : Int) (hE : (E != 0) = true)
    (A1 : ∀ w', Kpt w w' → Calls Tryz.prog 11 #[.agg #[.int .i64 W, .slice ah nh ch, .slice at' nt ct, .int .i64 X], .agg #[.int .i64 T, .slice a n c, .slice ab nb cb], pv] w' (NtRes w' E 0 [] [] [])) : Calls Tryz.prog 5 #[.agg #[.int .i64 W, .slice ah nh ch, .slice at' nt ct, .int .i64 X], .agg #[.int .i64 T, .slice a n c, .slice ab nb cb], pv, .int .i64 ac, .int .i64 un] w fun e w' => e = .returned (.bool true) ∧ Kpt w w' := by
  have K3 : Hid (Kpt w ((w.alloc (.cells #[.int .i64 W, .slice ah nh ch, .slice at' nt ct, .int .i64 X] 27)).alloc (.cells #[.int .i64 T, .slice a n c, .slice ab nb cb] 31))) := ((Kpt.refl w).alloc _).alloc _
  have B3 : Hid (Blk ((w.alloc (.cells #[.int .i64 W, .slice ah nh ch, .slice at' nt ct, .int .i64 X] 27)).alloc (.cells #[.int .i64 T, .slice a n c, .slice ab nb cb] 31)) w.heap.size #[.int .i64 W, .slice ah nh ch, .slice at' nt ct, .int .i64 X] 27) := (Blk.made w _ _).alloc _
  have B4 : Hid (Blk ((w.alloc (.cells #[.int .i64 W, .slice ah nh ch, .slice at' nt ct, .int .i64 X] 27)).alloc (.cells #[.int .i64 T, .slice a n c, .slice ab nb cb] 31)) (w.heap.size + 1) #[.int .i64 T, .slice a n c, .slice ab nb cb] 31) := by
    have := Blk.made (w.alloc (.cells #[.int .i64 W, .slice ah nh ch, .slice at' nt ct, .int .i64 X] 27)) #[.int .i64 T, .slice a n c, .slice ab nb cb] 31
    rw [World.size_alloc] at this
    exact this
  go_enter Tryz.func5, Tryz.ntmps5
  go_wp2_with (first
    | (go_at_call 11; (with_reducible refine (A1 _ K3.out).mono ?_); rintro e w1 ⟨fv1, bv1, qv1, rfl, of1, ob1, oq1, k1⟩; have K1 : Hid (Kpt w w1) := ktr K3.out k1; have KW1 : Hid (Kpt ((w.alloc (.cells #[.int .i64 W, .slice ah nh ch, .slice at' nt ct, .int .i64 X] 27)).alloc (.cells #[.int .i64 T, .slice a n c, .slice ab nb cb] 31)) w1) := k1; have OF1 := Lib.hid of1; have OB1 := Lib.hid ob1; have OQ1 := Lib.hid oq1; obtain ⟨a1, c1, rfl⟩ := formN 0 of1 rfl; obtain ⟨b1, d1, rfl⟩ := formQ 0 ob1 rfl; obtain ⟨g1, h1, rfl⟩ := formQ 0 oq1 rfl; have Z1 : Hid (Blk (w1.alloc (.cells #[.int .i64 0, .slice none 0 0, .slice none 0 0] 31)) w1.heap.size #[.int .i64 0, .slice none 0 0, .slice none 0 0] 31) := Blk.made _ _ _; have KZ1 : Hid (Kpt w (w1.alloc (.cells #[.int .i64 0, .slice none 0 0, .slice none 0 0] 31))) := K1.out.alloc _; clear of1 ob1 oq1 k1 A1)
    | (refine wp_storeW rfl (.tmp 11) (.tmp 30) rfl w1.heap.size _ _ rfl rfl Z1.out rfl rfl (by simp [Value.oneCell']) ?_; intro w2 r9 k9 o9; have R2 := Lib.hid r9; have K2 : Hid (Kpt w w2) := k9 _ _ KZ1.out (Below.size K1.out); have KK2 : Hid (Kpt w1 w2) := k9 _ _ ((Kpt.refl w1).alloc _) (Nat.le_refl _); clear r9 k9 o9)
    | (go_at_call 13; (with_reducible refine (cycleBegun_run _).mono ?_); rintro e w2b ⟨rfl, kk⟩; have KKw2b : Hid (Kpt w2 w2b) := kk; clear kk)
    | (go_at_call 27; (with_reducible refine (bookBegun _).mono ?_); rintro e w2c ⟨rfl, kk⟩; have KKw2c : Hid (Kpt w2 w2c) := ktr KKw2b.out kk; clear kk)
    | (go_at_call 28; (with_reducible refine (ageBegun _).mono ?_); rintro e w3 ⟨rfl, kk⟩; have KKw3 : Hid (Kpt w2 w3) := ktr KKw2c.out kk; have K3b : Hid (Kpt w w3) := ktr K2.out KKw3.out; have KK13 : Hid (Kpt w1 w3) := ktr KK2.out KKw3.out; have y0 : World.cell? w3 ⟨w1.heap.size, 0, none⟩ = some (.int .i64 0) := (Blk.kpt R2.out KKw3.out).cell 0; have y1 : World.cell? w3 ⟨w1.heap.size, 1, none⟩ = some (.slice a1 0 c1) := (Blk.kpt R2.out KKw3.out).cell 1; have y2 : World.cell? w3 ⟨w1.heap.size, 2, none⟩ = some (.slice b1 0 d1) := (Blk.kpt R2.out KKw3.out).cell 2; have SZ := Lib.hid (sameW_any 0 (.slice a1 0 c1) (.slice none 0 0) (.slice b1 0 d1) (.slice none 0 0) [] [] w3 (readsF_nil _ _ _) (readsF_nil _ _ _) (OwnsP.reads (ps := []) (row_kpt OB1.out KK13.out) inp_nil) (readsP_nil _ none 0 (fun _ => rfl))); clear kk)
    | (go_at_call 18; (with_reducible refine SZ.out.mono ?_); rintro z w9 ⟨rfl, kk⟩; have K9 : Hid (Kpt w w9) := ktr K3b.out kk; clear kk)
    | fail)
  go_ret
  exact ⟨rfl, K9.out⟩

/-- what CycleEven asks of a fail ahead of a night and behind it -/
def EvnOk (W : Int) (hs : List Int) (ts : List (List Int)) (T : Int) (l m : List Int) : Prop :=
  (0 ≤ l.getD 3 0 ∧ l.getD 3 0 ≤ 5) ∧ lkL W hs (tlOf ts l) l T = 0 ∧ ((stL W hs (tlOf ts l) l T = 4 ∧ l.getD 9 0 < m.getD 9 0) ∨ (stL W hs (tlOf ts l) l T ≠ 4 ∧ ¬ l.getD 9 0 < m.getD 9 0))
set_option maxRecDepth 100000 in
set_option maxHeartbeats 8000000 in
theorem cev_ok (W X T ac un : Int) (ah at' a ab : Option Addr) (nh ch nt ct n c nb cb : Nat) (pv : Value) (w : World) (hs : List Int) (ts fs F1 : List (List Int)) (B1 P1 : List (Int × Int × Int)) (T1 SB SR Eb : Int) (hr : Reads w (.slice ah nh ch) hs) (hf : Fits hs) (ht : ReadsT w (.slice at' nt ct) ts) (h6 : ts.length = 6) (hF : ReadsF w (.slice a n c) fs)
    (hT : T < T1) (h60 : fs.length ≤ 60) (hl2 : F1.length = fs.length) (EO : ∀ k, k < fs.length → EvnOk W hs ts T (fs.getD k []) (F1.getD k []))
    (FB : Hid (∀ l ∈ F1, FlB l)) (IB : Hid (InP B1)) (IP : Hid (InP P1)) (hp1 : P1.length ≤ 900) (PT : Hid (∀ p ∈ P1, ptB p = true)) (AB : Hid (amtB SB = true)) (AR : Hid (amtB SR = true)) (SUM : Hid ((amtsOf P1 ac un ++ [SB]).sum = SR))
    (CK : ∀ w' v1 b1, ReadsF w' v1 F1 → ReadsP w' b1 B1 → Calls Tryz.prog 16 #[.agg #[.int .i64 T1, v1, b1]] w' fun e w'' => e = .returned (.int .i64 0) ∧ Kpt w' w'')
    (L1 : ∀ w', Kpt w w' → Calls Tryz.prog 29 #[.slice ab nb cb, .int .i64 ac, .int .i64 un] w' fun e w'' => e = .returned (.tuple #[.int .i64 SB, .int .i64 Eb]) ∧ Kpt w' w'')
    (L2 : ∀ w' b1, ReadsP w' b1 B1 → Calls Tryz.prog 29 #[b1, .int .i64 ac, .int .i64 un] w' fun e w'' => e = .returned (.tuple #[.int .i64 SR, .int .i64 Eb]) ∧ Kpt w' w'')
    (A1 : ∀ w', Kpt w w' → Calls Tryz.prog 11 #[.agg #[.int .i64 W, .slice ah nh ch, .slice at' nt ct, .int .i64 X], .agg #[.int .i64 T, .slice a n c, .slice ab nb cb], pv] w' (NtRes w' 0 T1 F1 B1 P1)) : Calls Tryz.prog 5 #[.agg #[.int .i64 W, .slice ah nh ch, .slice at' nt ct, .int .i64 X], .agg #[.int .i64 T, .slice a n c, .slice ab nb cb], pv, .int .i64 ac, .int .i64 un] w fun e w' => e = .returned (.bool true) ∧ Kpt w w' := by
  have en : n = fs.length := by obtain ⟨x, cap, e, -⟩ := hF; injection e
  have HNF : Hid (F1.length = n) := hl2.trans en.symm
  rw [← en] at h60 EO
  have H60 := Lib.hid h60
  have HEO := Lib.hid EO
  have HR := Lib.hid hr
  have HFI := Lib.hid hf
  have H6 := Lib.hid h6
  have HT : Hid (∀ k, k < ts.length → ∃ g off, at' = some ⟨g, off, none⟩ ∧ ∀ j, j < 4 → w.cell? ⟨g, off + k * 4 + j, none⟩ = some (.int .i64 ((ts.getD k []).getD j 0))) := by
    obtain ⟨x, cap, e, -, hc⟩ := ht
    injection e with e1 e2 e3
    subst e1
    exact hc
  have HNT : Hid (nt = 6) := by
    obtain ⟨x, cap, e, -, hc⟩ := ht
    injection e with e1 e2 e3
    exact e2.trans h6
  have HFW : Hid (∀ k, k < n → ∃ g off, a = some ⟨g, off, none⟩ ∧ FlAt w g (off + k * 10) (fs.getD k [])) := by
    obtain ⟨x, cap, e, -, -, hc⟩ := hF
    injection e with e1 e2 e3
    subst e1
    rw [en]
    exact hc
  have qT : decide (T1 ≤ T) = false := decide_eq_false (by omega)
  have mixed : Tryz.prog.follows .mixedOrders = true := by kernel_rfl
  obtain ⟨nP, hP'⟩ : ∃ m, m = P1.length := ⟨_, rfl⟩
  have HNP := Lib.hid hP'
  rw [← hP'] at hp1
  have HP9 := Lib.hid hp1
  clear hr hf EO h6 ht h60 hF hT hl2 en hP' hp1
  have K3 : Hid (Kpt w ((w.alloc (.cells #[.int .i64 W, .slice ah nh ch, .slice at' nt ct, .int .i64 X] 27)).alloc (.cells #[.int .i64 T, .slice a n c, .slice ab nb cb] 31))) := ((Kpt.refl w).alloc _).alloc _
  have B3 : Hid (Blk ((w.alloc (.cells #[.int .i64 W, .slice ah nh ch, .slice at' nt ct, .int .i64 X] 27)).alloc (.cells #[.int .i64 T, .slice a n c, .slice ab nb cb] 31)) w.heap.size #[.int .i64 W, .slice ah nh ch, .slice at' nt ct, .int .i64 X] 27) := (Blk.made w _ _).alloc _
  have B4 : Hid (Blk ((w.alloc (.cells #[.int .i64 W, .slice ah nh ch, .slice at' nt ct, .int .i64 X] 27)).alloc (.cells #[.int .i64 T, .slice a n c, .slice ab nb cb] 31)) (w.heap.size + 1) #[.int .i64 T, .slice a n c, .slice ab nb cb] 31) := by
    have := Blk.made (w.alloc (.cells #[.int .i64 W, .slice ah nh ch, .slice at' nt ct, .int .i64 X] 27)) #[.int .i64 T, .slice a n c, .slice ab nb cb] 31
    rw [World.size_alloc] at this
    exact this
  go_enter Tryz.func5, Tryz.ntmps5
  go_upto_region 11 with (first
    | (go_at_call 11; (with_reducible refine (A1 _ K3.out).mono ?_); rintro e w1 ⟨fv1, bv1, qv1, rfl, of1, ob1, oq1, k1⟩; have K1 : Hid (Kpt w w1) := ktr K3.out k1; have KW1 : Hid (Kpt ((w.alloc (.cells #[.int .i64 W, .slice ah nh ch, .slice at' nt ct, .int .i64 X] 27)).alloc (.cells #[.int .i64 T, .slice a n c, .slice ab nb cb] 31)) w1) := k1; have OF1 := Lib.hid of1; have OB1 := Lib.hid ob1; have OQ1 := Lib.hid oq1; obtain ⟨a1, c1, rfl⟩ := formN n of1 HNF.out; obtain ⟨b1, d1, rfl⟩ := OwnsP.form ob1; obtain ⟨g1, h1, rfl⟩ := formQ nP oq1 HNP.out.symm; have Z1 : Hid (Blk (w1.alloc (.cells #[.int .i64 0, .slice none 0 0, .slice none 0 0] 31)) w1.heap.size #[.int .i64 0, .slice none 0 0, .slice none 0 0] 31) := Blk.made _ _ _; have KZ1 : Hid (Kpt w (w1.alloc (.cells #[.int .i64 0, .slice none 0 0, .slice none 0 0] 31))) := K1.out.alloc _; clear of1 ob1 oq1 k1 A1)
    | (refine wp_storeW rfl (.tmp 11) (.tmp 30) rfl w1.heap.size _ _ rfl rfl Z1.out rfl rfl (by simp [Value.oneCell']) ?_; intro w2 r9 k9 o9; have R2 := Lib.hid r9; have K2 : Hid (Kpt w w2) := k9 _ _ KZ1.out (Below.size K1.out); have KK2 : Hid (Kpt w1 w2) := k9 _ _ ((Kpt.refl w1).alloc _) (Nat.le_refl _); clear r9 k9 o9)
    | (go_at_call 13; (with_reducible refine (cycleBegun_run _).mono ?_); rintro e w2b ⟨rfl, kk⟩; have KKw2b : Hid (Kpt w2 w2b) := kk; clear kk)
    | (go_at_call 27; (with_reducible refine (bookBegun _).mono ?_); rintro e w2c ⟨rfl, kk⟩; have KKw2c : Hid (Kpt w2 w2c) := ktr KKw2b.out kk; clear kk)
    | (go_at_call 28; (with_reducible refine (ageBegun _).mono ?_); rintro e w3 ⟨rfl, kk⟩; have KKw3 : Hid (Kpt w2 w3) := ktr KKw2c.out kk; have K3b : Hid (Kpt w w3) := ktr K2.out KKw3.out; have KK13 : Hid (Kpt w1 w3) := ktr KK2.out KKw3.out; have y0 : World.cell? w3 ⟨w1.heap.size, 0, none⟩ = some (.int .i64 T1) := (Blk.kpt R2.out KKw3.out).cell 0; have y1 : World.cell? w3 ⟨w1.heap.size, 1, none⟩ = some (.slice a1 n c1) := (Blk.kpt R2.out KKw3.out).cell 1; have y2 : World.cell? w3 ⟨w1.heap.size, 2, none⟩ = some (.slice b1 B1.length d1) := (Blk.kpt R2.out KKw3.out).cell 2; have CKX := Lib.hid (CK w3 (.slice a1 n c1) (.slice b1 B1.length d1) (OwnsN.readsF (OwnsN.kpt OF1.out KK13.out) FB.out) (OwnsP.reads (row_kpt OB1.out KK13.out) IB.out)); clear CK; clear kk)
    | (go_at_call 16; (with_reducible refine CKX.out.mono ?_); rintro e w4 ⟨rfl, kk⟩; have K4 : Hid (Kpt w w4) := ktr K3b.out kk; have KK34 : Hid (Kpt w3 w4) := kk; have KW4 : Hid (Kpt ((w.alloc (.cells #[.int .i64 W, .slice ah nh ch, .slice at' nt ct, .int .i64 X] 27)).alloc (.cells #[.int .i64 T, .slice a n c, .slice ab nb cb] 31)) w4) := ktr KW1.out (ktr KK13.out kk); have x0 : World.cell? w4 ⟨w1.heap.size, 0, none⟩ = some (.int .i64 T1) := (Blk.kpt (R2.out.kpt KKw3.out) KK34.out).cell 0; have x1 : World.cell? w4 ⟨w1.heap.size, 1, none⟩ = some (.slice a1 n c1) := (Blk.kpt (R2.out.kpt KKw3.out) KK34.out).cell 1; have x2 : World.cell? w4 ⟨w1.heap.size, 2, none⟩ = some (.slice b1 B1.length d1) := (Blk.kpt (R2.out.kpt KKw3.out) KK34.out).cell 2; have v0 : World.cell? w4 ⟨w.heap.size + 1, 0, none⟩ = some (.int .i64 T) := (Blk.kpt B4.out KW4.out).cell 0; have v1 : World.cell? w4 ⟨w.heap.size + 1, 1, none⟩ = some (.slice a n c) := (Blk.kpt B4.out KW4.out).cell 1; have v2 : World.cell? w4 ⟨w.heap.size + 1, 2, none⟩ = some (.slice ab nb cb) := (Blk.kpt B4.out KW4.out).cell 2; clear kk CKX)
    | (go_at_call 29; (with_reducible refine (L1 _ K4.out).mono ?_); rintro e w4b ⟨rfl, kk⟩; have K4b : Hid (Kpt w w4b) := ktr K4.out kk; have KK34b : Hid (Kpt w3 w4b) := ktr KK34.out kk; have x2 : World.cell? w4b ⟨w1.heap.size, 2, none⟩ = some (.slice b1 B1.length d1) := ((R2.out.kpt KKw3.out).kpt KK34b.out).cell 2; have RB4 : Hid (ReadsP w4b (.slice b1 B1.length d1) B1) := OwnsP.reads (row_kpt OB1.out (ktr KK13.out KK34b.out)) IB.out; clear kk L1 K4)
    | (go_at_call 29; (with_reducible refine (L2 _ _ RB4.out).mono ?_); rintro e w5 ⟨rfl, kk⟩; have K5 : Hid (Kpt w w5) := ktr K4b.out kk; have KK35 : Hid (Kpt w3 w5) := ktr KK34b.out kk; clear kk L2 RB4)
    | fail)
  have KK15 : Hid (Kpt w1 w5) := ktr KK13.out KK35.out
  have BR : Hid (Blk w5 w.heap.size #[.int .i64 W, .slice ah nh ch, .slice at' nt ct, .int .i64 X] 27) := B3.out.kpt (ktr KW1.out KK15.out)
  have BW : Hid (Blk w5 (w.heap.size + 1) #[.int .i64 T, .slice a n c, .slice ab nb cb] 31) := B4.out.kpt (ktr KW1.out KK15.out)
  have BX : Hid (Blk w5 w1.heap.size #[.int .i64 T1, .slice a1 n c1, .slice b1 B1.length d1] 31) := (R2.out.kpt KKw3.out).kpt KK35.out
  have OX := OwnsN.kpt OF1.out KK15.out
  have HX : Hid (∀ k, k < n → ∃ g, a1 = some ⟨g, 0, none⟩ ∧ ∀ j, j < 10 → w5.cell? ⟨g, k * 10 + j, none⟩ = some (.int .i64 ((F1.getD k []).getD j 0))) := fun k hk => by
    obtain ⟨a', cap', e, -, hc⟩ := OwnsN.cells OX
    injection e with e1 e2 e3
    obtain ⟨g, e', h'⟩ := hc k (by rw [HNF.out]; exact hk)
    exact ⟨g, e1.trans e', h'⟩
  have HC : Hid (∀ j, j < nP → ∃ b off, g1 = some ⟨b, off, none⟩ ∧ PtAt w5 b (off + j * 3) (P1.getD j default)) := by
    obtain ⟨x, cap, e, -, -, -, hc⟩ := OwnsP.reads (row_kpt OQ1.out KK15.out) IP.out
    injection e with e1 e2 e3
    subst e1
    rw [HNP.out]
    exact hc
  clear OX K1 KW1 OF1 OB1 OQ1 Z1 KZ1 R2 K2 KK2 KKw2b KKw2c KKw3 K3b KK13 KK34 KW4 K4b KK34b KK35 KK15 y0 y1 y2 x0 x1 x2 v0 v1 v2 B3 B4 K3
  go_wp2
  go_loopw [18, 19] (fun m i wr => ∃ k : Nat, k ≤ nP ∧ i = .int .i64 k ∧ Hid (Owns wr w5.heap.size m (amtsOf (P1.take k) ac un)) ∧ Hid (Kpt w5 wr)) (fun _ i _ => nP - (intOf i).toNat)
  case atStart => exact ⟨0, Nat.zero_le _, rfl, Owns.nil _ _, Kpt.refl _⟩
  case round =>
    obtain ⟨k, hk, rfl, HO, HJ⟩ := hrel
    by_cases hlt : k < nP
    · obtain ⟨x, off, rfl, c0, c1, c2⟩ := HC.out k hlt
      have d0 := HJ.out.cell c0
      have d1 := HJ.out.cell c1
      have d2 := HJ.out.cell c2
      have hltP : k < P1.length := by rw [← HNP.out]; exact hlt
      have hm := Lib.hid (amtsOf_more hltP ac un)
      have hs' := Lib.hid (amtsOf_stay hltP ac un)
      have hn := amtsOf_len P1 k ac un
      rw [← HNP.out] at hn
      have HLN := Lib.hid hn
      have m0 : IntKind.i64.wrap ((k : Int) + 1) = (k : Int) + 1 := IntWalk.i64_in _ (by have := HP9.out; omega)
      clear c0 c1 c2 HX HEO HT HFW hltP hn
      generalize P1.getD k default = p at d0 d1 d2 hm hs'
      obtain ⟨A, U, N⟩ := p
      simp only at d0 d1 d2
      by_cases h1' : A = ac
      · by_cases h2' : U = un
        · have HM := Lib.hid (hm.out h1' h2')
          have q1 : (A == ac) = true := beq_iff_eq.2 h1'
          have q2 : (U == un) = true := beq_iff_eq.2 h2'
          clear hm hs' h1' h2'
          go_wp2_with (at_builtin; refine wp_append1 rfl (.tmp 110) (.tmp 116) rfl w5.heap.size _ _ N wr rfl HO.out rfl (by have h9 : nP ≤ 900 := HP9.out; have h8 : _ ≤ nP := HLN.out; omega) HJ.out.size ?_; intro v' w' h1 h2; have HO' : Hid (Owns w' w5.heap.size v' (amtsOf (P1.take (k + 1)) ac un)) := (by unfold Hid; rw [HM.out]; exact h1); have HJ' : Hid (Kpt w5 w') := Below.trans HJ.out h2; clear h1 h2)
          go_roundw
          case rel => exact ⟨k + 1, by omega, by go_num, HO'.out, HJ'.out⟩
          case measure => simp [intOf]; omega
        · have HM := Lib.hid (hs'.out fun q => h2' q.2)
          have q1 : (A == ac) = true := beq_iff_eq.2 h1'
          have q2 : (U == un) = false := beq_eq_false_iff_ne.2 h2'
          have HO' : Hid (Owns wr w5.heap.size u18 (amtsOf (P1.take (k + 1)) ac un)) := by unfold Hid; rw [HM.out]; exact HO.out
          clear hm hs' h1' h2'
          go_wp2
          go_roundw
          case rel => exact ⟨k + 1, by omega, by go_num, HO'.out, HJ.out⟩
          case measure => simp [intOf]; omega
      · have HM := Lib.hid (hs'.out fun q => h1' q.1)
        have q1 : (A == ac) = false := beq_eq_false_iff_ne.2 h1'
        have HO' : Hid (Owns wr w5.heap.size u18 (amtsOf (P1.take (k + 1)) ac un)) := by unfold Hid; rw [HM.out]; exact HO.out
        clear hm hs' h1'
        go_wp2
        go_roundw
        case rel => exact ⟨k + 1, by omega, by go_num, HO'.out, HJ.out⟩
        case measure => simp [intOf]; omega
    · have e : P1.take k = P1 := List.take_of_length_le (by rw [← HNP.out]; omega)
      rw [e] at HO
      clear e
      have hn := amtsOf_len P1 P1.length ac un
      rw [List.take_length, ← HNP.out] at hn
      have HLN := Lib.hid hn
      clear hn
      have AA : Hid (∀ z ∈ amtsOf P1 ac un ++ [SB], amtB z = true) := fun z hz => by
        rcases List.mem_append.1 hz with hz | hz
        · exact amtsOf_amt PT.out ac un z hz
        · rw [List.mem_singleton.1 hz]; exact AB.out
      have eE : (Eb != Eb) = false := bne_self_eq_false Eb
      have eS : (SR != SR) = false := bne_self_eq_false SR
      clear HC
      go_upto_region 17 with (first
        | (at_builtin; refine wp_append1 rfl (.tmp 119) (.tmp 121) rfl w5.heap.size _ _ SB wr rfl HO.out rfl (by have h9 : nP ≤ 900 := HP9.out; have h8 : _ ≤ nP := HLN.out; omega) HJ.out.size ?_; intro v' w' h1 h2; have HO' := Lib.hid h1; have HJ' : Hid (Kpt w5 w') := Below.trans HJ.out h2; clear h1 h2)
        | (go_at_call 30; (with_reducible refine (sumOf_own _ _ SR HO'.out (by have h9 : nP ≤ 900 := HP9.out; have h8 : _ ≤ nP := HLN.out; rw [List.length_append]; simp; omega) AA.out SUM.out AR.out).mono ?_); rintro e w6 ⟨rfl, k6⟩; have K56 : Hid (Kpt w5 w6) := ktr HJ'.out k6; clear k6)
        | fail)
      clear HO AA HO'
      have K6 : Hid (Kpt w w6) := ktr K5.out K56.out
      by_cases hEb : Eb = 0
      · have qe : (Eb == 0) = true := beq_iff_eq.2 hEb
        clear hEb
        go_wp2
        go_loopw [22] (fun ii wq => ∃ k2 : Nat, k2 ≤ n ∧ ii = .int .i64 (k2 : Int) ∧ Hid (Kpt w6 wq)) (fun ii _ => n - (intOf ii).toNat)
        case atStart => exact ⟨0, Nat.zero_le _, rfl, Kpt.refl _⟩
        case round =>
          obtain ⟨k2, hk2, rfl, HK⟩ := hrel
          have K5q : Hid (Kpt w5 wr) := ktr K56.out HK.out
          have v1 : World.cell? wr ⟨w.heap.size + 1, 1, none⟩ = some (.slice a n c) := (BW.out.kpt K5q.out).cell 1
          by_cases hlt2 : k2 < n
          · obtain ⟨g, off, rfl, hfl⟩ := HFW.out k2 hlt2
            obtain ⟨g2, rfl, hd⟩ := HX.out k2 hlt2
            obtain ⟨e2, e3, e4⟩ := HEO.out k2 hlt2
            clear HX HEO HFW
            generalize F1.getD k2 [] = m at *
            generalize fs.getD k2 [] = l at *
            obtain ⟨gt, ot, rfl, htc⟩ := HT.out (l.getD 3 0).toNat (by have := H6.out; omega)
            clear HT
            have ST := Lib.hid (fun w' (kk : Kpt w w') => stage_any W ((tlOf ts l).getD 0 0) ((tlOf ts l).getD 1 0) ((tlOf ts l).getD 2 0) ((tlOf ts l).getD 3 0) (l.getD 0 0) (l.getD 1 0) (l.getD 2 0) (l.getD 3 0) (l.getD 4 0) (l.getD 5 0) (l.getD 6 0) (l.getD 7 0) (l.getD 8 0) (l.getD 9 0) T _ hs w' (HR.out.kpt kk) HFI.out)
            change Hid (∀ w', Kpt w w' → Calls Tryz.prog 31 _ w' fun z w'' => z = .returned (.tuple #[.int .i64 (stL W hs (tlOf ts l) l T), .int .i64 (lkL W hs (tlOf ts l) l T)]) ∧ Kpt w' w'') at ST
            rw [e3] at ST
            unfold calV at ST
            have h0 : w.cell? ⟨gt, ot + (l.getD 3 0).toNat * 4, none⟩ = some (.int .i64 ((tlOf ts l).getD 0 0)) := htc 0 (by omega)
            have h1' : w.cell? ⟨gt, ot + (l.getD 3 0).toNat * 4 + 1, none⟩ = some (.int .i64 ((tlOf ts l).getD 1 0)) := htc 1 (by omega)
            have h2' : w.cell? ⟨gt, ot + (l.getD 3 0).toNat * 4 + 2, none⟩ = some (.int .i64 ((tlOf ts l).getD 2 0)) := htc 2 (by omega)
            have h3' : w.cell? ⟨gt, ot + (l.getD 3 0).toNat * 4 + 3, none⟩ = some (.int .i64 ((tlOf ts l).getD 3 0)) := htc 3 (by omega)
            have c0_ : w.cell? ⟨g, off + k2 * 10, none⟩ = some (.int .i64 (l.getD 0 0)) := hfl 0 (by decide)
            have c1_ : w.cell? ⟨g, off + k2 * 10 + 1, none⟩ = some (.int .i64 (l.getD 1 0)) := hfl 1 (by decide)
            have c2_ : w.cell? ⟨g, off + k2 * 10 + 2, none⟩ = some (.int .i64 (l.getD 2 0)) := hfl 2 (by decide)
            have c3_ : w.cell? ⟨g, off + k2 * 10 + 3, none⟩ = some (.int .i64 (l.getD 3 0)) := hfl 3 (by decide)
            have c4_ : w.cell? ⟨g, off + k2 * 10 + 4, none⟩ = some (.int .i64 (l.getD 4 0)) := hfl 4 (by decide)
            have c5_ : w.cell? ⟨g, off + k2 * 10 + 5, none⟩ = some (.int .i64 (l.getD 5 0)) := hfl 5 (by decide)
            have c6_ : w.cell? ⟨g, off + k2 * 10 + 6, none⟩ = some (.int .i64 (l.getD 6 0)) := hfl 6 (by decide)
            have c7_ : w.cell? ⟨g, off + k2 * 10 + 7, none⟩ = some (.int .i64 (l.getD 7 0)) := hfl 7 (by decide)
            have c8_ : w.cell? ⟨g, off + k2 * 10 + 8, none⟩ = some (.int .i64 (l.getD 8 0)) := hfl 8 (by decide)
            have c9_ : w.cell? ⟨g, off + k2 * 10 + 9, none⟩ = some (.int .i64 (l.getD 9 0)) := hfl 9 (by decide)
            have d9 := hd 9 (by decide)
            clear htc hfl hd e3
            generalize stL W hs (tlOf ts l) l T = st at *
            generalize (tlOf ts l).getD 0 0 = te at *
            generalize (tlOf ts l).getD 1 0 = tb at *
            generalize (tlOf ts l).getD 2 0 = td at *
            generalize (tlOf ts l).getD 3 0 = tr at *
            generalize m.getD 9 0 = m9 at *
            generalize l.getD 0 0 = z0 at *
            generalize l.getD 1 0 = z1 at *
            generalize l.getD 2 0 = z2 at *
            generalize l.getD 3 0 = z3 at *
            generalize l.getD 4 0 = z4 at *
            generalize l.getD 5 0 = z5 at *
            generalize l.getD 6 0 = z6 at *
            generalize l.getD 7 0 = z7 at *
            generalize l.getD 8 0 = z8 at *
            generalize l.getD 9 0 = z9 at *
            have q1 : decide ((k2 : Int) < (n : Int)) = true := decide_eq_true (by omega)
            have i0 : (0 : Int) ≤ (k2 : Int) := by omega
            have i1 : (k2 : Int) < (n : Int) := by omega
            have j0 : 0 ≤ z3 := e2.1
            have j1 : z3 < (nt : Int) := by have := HNT.out; omega
            have m0 : IntKind.i64.wrap ((k2 : Int) + 1) = (k2 : Int) + 1 := IntWalk.i64_in _ (by have := H60.out; omega)
            clear e2
            go_upto_region 22 with fail
            have KWr : Hid (Kpt w wr) := ktr K6.out HK.out
            have g0 := cell_k (q := wr) (a := ⟨w.heap.size, 0, none⟩) (v := .int .i64 W) ((BR.out.kpt K5q.out).cell 0)
            have g1' := cell_k (q := wr) (a := ⟨w.heap.size, 1, none⟩) (v := .slice ah nh ch) ((BR.out.kpt K5q.out).cell 1)
            have g2' := cell_k (q := wr) (a := ⟨w.heap.size, 2, none⟩) (v := .slice (some ⟨gt, ot, none⟩) nt ct) ((BR.out.kpt K5q.out).cell 2)
            have r0 := cell_k (q := wr) (KWr.out.cell h0)
            have r1 := cell_k (q := wr) (KWr.out.cell h1')
            have r2 := cell_k (q := wr) (KWr.out.cell h2')
            have r3 := cell_k (q := wr) (KWr.out.cell h3')
            have s1 := cell_k (q := wr) v1
            have s0 := cell_k (q := wr) (a := ⟨w.heap.size + 1, 0, none⟩) (v := .int .i64 T) ((BW.out.kpt K5q.out).cell 0)
            have y0 := cell_k (q := wr) (KWr.out.cell c0_)
            have y1 := cell_k (q := wr) (KWr.out.cell c1_)
            have y2 := cell_k (q := wr) (KWr.out.cell c2_)
            have y3 := cell_k (q := wr) (KWr.out.cell c3_)
            have y4 := cell_k (q := wr) (KWr.out.cell c4_)
            have y5 := cell_k (q := wr) (KWr.out.cell c5_)
            have y6 := cell_k (q := wr) (KWr.out.cell c6_)
            have y7 := cell_k (q := wr) (KWr.out.cell c7_)
            have y8 := cell_k (q := wr) (KWr.out.cell c8_)
            have y9 := cell_k (q := wr) (KWr.out.cell c9_)
            have DQ := Lib.hid (fun p : KptTo wr => ST.out p.w (ktr KWr.out p.h))
            clear ST h0 h1' h2' h3' v1
            refine quiet_k (q := wr) mixed (by kernel_rfl) ?_
            repeat (go_big_quiet_step (first | (go_at_call 31; with_reducible refine calls_k (DQ.out _)) | fail))
            refine wpQuiet_nil ?_
            intro w7 hw1
            obtain ⟨⟨wz, kz⟩, hw2⟩ := hw1
            have hw3 : w7 = wz := hw2
            clear hw2
            subst hw3
            have KZ : Hid (Kpt w6 w7) := ktr HK.out kz
            have K57 : Hid (Kpt w5 w7) := ktr K56.out KZ.out
            have K07 : Hid (Kpt w w7) := ktr K6.out KZ.out
            clear kz g0 g1' g2' r0 r1 r2 r3 s1 s0 y0 y1 y2 y3 y4 y5 y6 y7 y8 y9 DQ
            have s1 := cell_k (q := w7) (a := ⟨w.heap.size + 1, 1, none⟩) (v := .slice (some ⟨g, off, none⟩) n c) ((BW.out.kpt K57.out).cell 1)
            have t1 := cell_k (q := w7) (a := ⟨w1.heap.size, 1, none⟩) (v := .slice (some ⟨g2, 0, none⟩) n c1) ((BX.out.kpt K57.out).cell 1)
            have s9 := cell_k (q := w7) (a := ⟨g, off + k2 * 10 + 9, none⟩) (v := .int .i64 z9) (K07.out.cell c9_)
            have t9 := cell_k (q := w7) (a := ⟨g2, k2 * 10 + 9, none⟩) (v := .int .i64 m9) (K57.out.cell d9)
            have fin : ∀ w8, Kpt w7 w8 → Hid (Kpt w6 w8) := fun w8 kk => ktr KZ.out kk
            clear d9 c0_ c1_ c2_ c3_ c4_ c5_ c6_ c7_ c8_ c9_
            go_upto_region 23 with fail
            rcases e4 with ⟨e5, e6⟩ | ⟨e5, e6⟩
            · have qs : (st == 4) = true := beq_iff_eq.2 e5
              have qd : decide (z9 < m9) = true := decide_eq_true e6
              clear e5 e6
              refine quiet_k (q := w7) mixed (by kernel_rfl) ?_
              repeat (go_big_quiet_step (fail))
              refine wpQuiet_nil ?_
              intro w8 hw1
              obtain ⟨⟨wz, kz⟩, hw2⟩ := hw1
              have hw3 : w8 = wz := hw2
              clear hw2
              subst hw3
              have K8 := fin _ kz
              clear kz
              go_wp2
              go_roundw
              case rel => exact ⟨k2 + 1, by omega, by go_num, K8.out⟩
              case measure => simp [intOf]; omega
            · have qs : (st == 4) = false := beq_eq_false_iff_ne.2 e5
              have qd : decide (z9 < m9) = false := decide_eq_false e6
              clear e5 e6
              refine quiet_k (q := w7) mixed (by kernel_rfl) ?_
              repeat (go_big_quiet_step (fail))
              refine wpQuiet_nil ?_
              intro w8 hw1
              obtain ⟨⟨wz, kz⟩, hw2⟩ := hw1
              have hw3 : w8 = wz := hw2
              clear hw2
              subst hw3
              have K8 := fin _ kz
              clear kz
              go_wp2
              go_roundw
              case rel => exact ⟨k2 + 1, by omega, by go_num, K8.out⟩
              case measure => simp [intOf]; omega
          · obtain rfl : k2 = n := by omega
            have q1 : decide ((k2 : Int) < (k2 : Int)) = false := decide_eq_false (by omega)
            clear HX HEO HFW HT
            go_wp2
            go_ret
            exact ⟨rfl, ktr K6.out HK.out⟩
      · have qe : (Eb == 0) = false := beq_eq_false_iff_ne.2 hEb
        clear hEb
        go_wp2
        go_loopw [22] (fun ii wq => ∃ k2 : Nat, k2 ≤ n ∧ ii = .int .i64 (k2 : Int) ∧ Hid (Kpt w6 wq)) (fun ii _ => n - (intOf ii).toNat)
        case atStart => exact ⟨0, Nat.zero_le _, rfl, Kpt.refl _⟩
        case round =>
          obtain ⟨k2, hk2, rfl, HK⟩ := hrel
          have K5q : Hid (Kpt w5 wr) := ktr K56.out HK.out
          have v1 : World.cell? wr ⟨w.heap.size + 1, 1, none⟩ = some (.slice a n c) := (BW.out.kpt K5q.out).cell 1
          by_cases hlt2 : k2 < n
          · obtain ⟨g, off, rfl, hfl⟩ := HFW.out k2 hlt2
            obtain ⟨g2, rfl, hd⟩ := HX.out k2 hlt2
            obtain ⟨e2, e3, e4⟩ := HEO.out k2 hlt2
            clear HX HEO HFW
            generalize F1.getD k2 [] = m at *
            generalize fs.getD k2 [] = l at *
            obtain ⟨gt, ot, rfl, htc⟩ := HT.out (l.getD 3 0).toNat (by have := H6.out; omega)
            clear HT
            have ST := Lib.hid (fun w' (kk : Kpt w w') => stage_any W ((tlOf ts l).getD 0 0) ((tlOf ts l).getD 1 0) ((tlOf ts l).getD 2 0) ((tlOf ts l).getD 3 0) (l.getD 0 0) (l.getD 1 0) (l.getD 2 0) (l.getD 3 0) (l.getD 4 0) (l.getD 5 0) (l.getD 6 0) (l.getD 7 0) (l.getD 8 0) (l.getD 9 0) T _ hs w' (HR.out.kpt kk) HFI.out)
            change Hid (∀ w', Kpt w w' → Calls Tryz.prog 31 _ w' fun z w'' => z = .returned (.tuple #[.int .i64 (stL W hs (tlOf ts l) l T), .int .i64 (lkL W hs (tlOf ts l) l T)]) ∧ Kpt w' w'') at ST
            rw [e3] at ST
            unfold calV at ST
            have h0 : w.cell? ⟨gt, ot + (l.getD 3 0).toNat * 4, none⟩ = some (.int .i64 ((tlOf ts l).getD 0 0)) := htc 0 (by omega)
            have h1' : w.cell? ⟨gt, ot + (l.getD 3 0).toNat * 4 + 1, none⟩ = some (.int .i64 ((tlOf ts l).getD 1 0)) := htc 1 (by omega)
            have h2' : w.cell? ⟨gt, ot + (l.getD 3 0).toNat * 4 + 2, none⟩ = some (.int .i64 ((tlOf ts l).getD 2 0)) := htc 2 (by omega)
            have h3' : w.cell? ⟨gt, ot + (l.getD 3 0).toNat * 4 + 3, none⟩ = some (.int .i64 ((tlOf ts l).getD 3 0)) := htc 3 (by omega)
            have c0_ : w.cell? ⟨g, off + k2 * 10, none⟩ = some (.int .i64 (l.getD 0 0)) := hfl 0 (by decide)
            have c1_ : w.cell? ⟨g, off + k2 * 10 + 1, none⟩ = some (.int .i64 (l.getD 1 0)) := hfl 1 (by decide)
            have c2_ : w.cell? ⟨g, off + k2 * 10 + 2, none⟩ = some (.int .i64 (l.getD 2 0)) := hfl 2 (by decide)
            have c3_ : w.cell? ⟨g, off + k2 * 10 + 3, none⟩ = some (.int .i64 (l.getD 3 0)) := hfl 3 (by decide)
            have c4_ : w.cell? ⟨g, off + k2 * 10 + 4, none⟩ = some (.int .i64 (l.getD 4 0)) := hfl 4 (by decide)
            have c5_ : w.cell? ⟨g, off + k2 * 10 + 5, none⟩ = some (.int .i64 (l.getD 5 0)) := hfl 5 (by decide)
            have c6_ : w.cell? ⟨g, off + k2 * 10 + 6, none⟩ = some (.int .i64 (l.getD 6 0)) := hfl 6 (by decide)
            have c7_ : w.cell? ⟨g, off + k2 * 10 + 7, none⟩ = some (.int .i64 (l.getD 7 0)) := hfl 7 (by decide)
            have c8_ : w.cell? ⟨g, off + k2 * 10 + 8, none⟩ = some (.int .i64 (l.getD 8 0)) := hfl 8 (by decide)
            have c9_ : w.cell? ⟨g, off + k2 * 10 + 9, none⟩ = some (.int .i64 (l.getD 9 0)) := hfl 9 (by decide)
            have d9 := hd 9 (by decide)
            clear htc hfl hd e3
            generalize stL W hs (tlOf ts l) l T = st at *
            generalize (tlOf ts l).getD 0 0 = te at *
            generalize (tlOf ts l).getD 1 0 = tb at *
            generalize (tlOf ts l).getD 2 0 = td at *
            generalize (tlOf ts l).getD 3 0 = tr at *
            generalize m.getD 9 0 = m9 at *
            generalize l.getD 0 0 = z0 at *
            generalize l.getD 1 0 = z1 at *
            generalize l.getD 2 0 = z2 at *
            generalize l.getD 3 0 = z3 at *
            generalize l.getD 4 0 = z4 at *
            generalize l.getD 5 0 = z5 at *
            generalize l.getD 6 0 = z6 at *
            generalize l.getD 7 0 = z7 at *
            generalize l.getD 8 0 = z8 at *
            generalize l.getD 9 0 = z9 at *
            have q1 : decide ((k2 : Int) < (n : Int)) = true := decide_eq_true (by omega)
            have i0 : (0 : Int) ≤ (k2 : Int) := by omega
            have i1 : (k2 : Int) < (n : Int) := by omega
            have j0 : 0 ≤ z3 := e2.1
            have j1 : z3 < (nt : Int) := by have := HNT.out; omega
            have m0 : IntKind.i64.wrap ((k2 : Int) + 1) = (k2 : Int) + 1 := IntWalk.i64_in _ (by have := H60.out; omega)
            clear e2
            go_upto_region 22 with fail
            have KWr : Hid (Kpt w wr) := ktr K6.out HK.out
            have g0 := cell_k (q := wr) (a := ⟨w.heap.size, 0, none⟩) (v := .int .i64 W) ((BR.out.kpt K5q.out).cell 0)
            have g1' := cell_k (q := wr) (a := ⟨w.heap.size, 1, none⟩) (v := .slice ah nh ch) ((BR.out.kpt K5q.out).cell 1)
            have g2' := cell_k (q := wr) (a := ⟨w.heap.size, 2, none⟩) (v := .slice (some ⟨gt, ot, none⟩) nt ct) ((BR.out.kpt K5q.out).cell 2)
            have r0 := cell_k (q := wr) (KWr.out.cell h0)
            have r1 := cell_k (q := wr) (KWr.out.cell h1')
            have r2 := cell_k (q := wr) (KWr.out.cell h2')
            have r3 := cell_k (q := wr) (KWr.out.cell h3')
            have s1 := cell_k (q := wr) v1
            have s0 := cell_k (q := wr) (a := ⟨w.heap.size + 1, 0, none⟩) (v := .int .i64 T) ((BW.out.kpt K5q.out).cell 0)
            have y0 := cell_k (q := wr) (KWr.out.cell c0_)
            have y1 := cell_k (q := wr) (KWr.out.cell c1_)
            have y2 := cell_k (q := wr) (KWr.out.cell c2_)
            have y3 := cell_k (q := wr) (KWr.out.cell c3_)
            have y4 := cell_k (q := wr) (KWr.out.cell c4_)
            have y5 := cell_k (q := wr) (KWr.out.cell c5_)
            have y6 := cell_k (q := wr) (KWr.out.cell c6_)
            have y7 := cell_k (q := wr) (KWr.out.cell c7_)
            have y8 := cell_k (q := wr) (KWr.out.cell c8_)
            have y9 := cell_k (q := wr) (KWr.out.cell c9_)
            have DQ := Lib.hid (fun p : KptTo wr => ST.out p.w (ktr KWr.out p.h))
            clear ST h0 h1' h2' h3' v1
            refine quiet_k (q := wr) mixed (by kernel_rfl) ?_
            repeat (go_big_quiet_step (first | (go_at_call 31; with_reducible refine calls_k (DQ.out _)) | fail))
            refine wpQuiet_nil ?_
            intro w7 hw1
            obtain ⟨⟨wz, kz⟩, hw2⟩ := hw1
            have hw3 : w7 = wz := hw2
            clear hw2
            subst hw3
            have KZ : Hid (Kpt w6 w7) := ktr HK.out kz
            have K57 : Hid (Kpt w5 w7) := ktr K56.out KZ.out
            have K07 : Hid (Kpt w w7) := ktr K6.out KZ.out
            clear kz g0 g1' g2' r0 r1 r2 r3 s1 s0 y0 y1 y2 y3 y4 y5 y6 y7 y8 y9 DQ
            have s1 := cell_k (q := w7) (a := ⟨w.heap.size + 1, 1, none⟩) (v := .slice (some ⟨g, off, none⟩) n c) ((BW.out.kpt K57.out).cell 1)
            have t1 := cell_k (q := w7) (a := ⟨w1.heap.size, 1, none⟩) (v := .slice (some ⟨g2, 0, none⟩) n c1) ((BX.out.kpt K57.out).cell 1)
            have s9 := cell_k (q := w7) (a := ⟨g, off + k2 * 10 + 9, none⟩) (v := .int .i64 z9) (K07.out.cell c9_)
            have t9 := cell_k (q := w7) (a := ⟨g2, k2 * 10 + 9, none⟩) (v := .int .i64 m9) (K57.out.cell d9)
            have fin : ∀ w8, Kpt w7 w8 → Hid (Kpt w6 w8) := fun w8 kk => ktr KZ.out kk
            clear d9 c0_ c1_ c2_ c3_ c4_ c5_ c6_ c7_ c8_ c9_
            go_upto_region 23 with fail
            rcases e4 with ⟨e5, e6⟩ | ⟨e5, e6⟩
            · have qs : (st == 4) = true := beq_iff_eq.2 e5
              have qd : decide (z9 < m9) = true := decide_eq_true e6
              clear e5 e6
              refine quiet_k (q := w7) mixed (by kernel_rfl) ?_
              repeat (go_big_quiet_step (fail))
              refine wpQuiet_nil ?_
              intro w8 hw1
              obtain ⟨⟨wz, kz⟩, hw2⟩ := hw1
              have hw3 : w8 = wz := hw2
              clear hw2
              subst hw3
              have K8 := fin _ kz
              clear kz
              go_wp2
              go_roundw
              case rel => exact ⟨k2 + 1, by omega, by go_num, K8.out⟩
              case measure => simp [intOf]; omega
            · have qs : (st == 4) = false := beq_eq_false_iff_ne.2 e5
              have qd : decide (z9 < m9) = false := decide_eq_false e6
              clear e5 e6
              refine quiet_k (q := w7) mixed (by kernel_rfl) ?_
              repeat (go_big_quiet_step (fail))
              refine wpQuiet_nil ?_
              intro w8 hw1
              obtain ⟨⟨wz, kz⟩, hw2⟩ := hw1
              have hw3 : w8 = wz := hw2
              clear hw2
              subst hw3
              have K8 := fin _ kz
              clear kz
              go_wp2
              go_roundw
              case rel => exact ⟨k2 + 1, by omega, by go_num, K8.out⟩
              case measure => simp [intOf]; omega
          · obtain rfl : k2 = n := by omega
            have q1 : decide ((k2 : Int) < (k2 : Int)) = false := decide_eq_false (by omega)
            clear HX HEO HFW HT
            go_wp2
            go_ret
            exact ⟨rfl, ktr K6.out HK.out⟩

theorem bal_two {l : List (Int × Int × Int)} (h : linE l = 0) (a u : Int) : (plB a u = true ∧ balE l a u = 0 ∧ balR l a u = sumAt l a u) ∨ (plB a u = false ∧ balE l a u = 3 ∧ balR l a u = 0) := by
  cases hp : plB a u with
  | true =>
    have hE : balE l a u = 0 := by unfold balE; rw [if_neg (by simpa using h), hp]; rfl
    exact .inl ⟨rfl, hE, by unfold balR; rw [if_pos hE, bal_sum (lin_0 h).2.1]⟩
  | false =>
    have hE : balE l a u = 3 := by unfold balE; rw [if_neg (by simpa using h), hp]; rfl
    exact .inr ⟨rfl, hE, by unfold balR; rw [if_neg (by rw [hE]; decide)]⟩
theorem evn_ok {W X T : Int} {hs ps : List Int} {ts fs : List (List Int)} {b : List (Int × Int × Int)} (h : cmE W hs ts ps X T fs b = 0) (k : Nat) (hk : k < fs.length) : EvnOk W hs ts T (fs.getD k []) ((cmF W hs ts T fs).getD k []) := by
  have h0 := cm_0 h _ (getF_mem hk)
  rw [cmF_at hk]
  generalize fs.getD k [] = l at *
  have hf := lkL_fl h0
  have fd := fdue_t (fail_0 (show failE _ _ _ _ _ _ _ _ _ _ = 0 from hf)).1
  refine ⟨fd.2.2.2.1, h0, ?_⟩
  by_cases h4 : stL W hs (tlOf ts l) l T = 4
  · refine .inl ⟨h4, ?_⟩
    have e : cmG W hs ts T l = payF l := if_pos h4
    rw [e]
    show l.getD 9 0 < l.getD 9 0 + opL l
    have o0 : opL l ≠ 0 := fun o => (st_closed o).1 h4
    have o1 : 0 ≤ opL l := by
      show 0 ≤ openV _ _ _ _ _ _ _ _ _ _
      unfold openV
      rw [if_pos (show failE _ _ _ _ _ _ _ _ _ _ = 0 from hf)]
      exact (fail_0 (show failE _ _ _ _ _ _ _ _ _ _ = 0 from hf)).2.2.2
    omega
  · have e : cmG W hs ts T l = l := if_neg h4
    rw [e]
    exact .inr ⟨h4, by omega⟩
theorem nig_len {W X T : Int} {hs ps : List Int} {ts fs : List (List Int)} {b : List (Int × Int × Int)} (h : pnE W hs ts fs ps T b = 0) (h60 : fs.length ≤ 60) : (nigP W hs ts X fs ps T b).length ≤ 900 := by
  unfold nigP
  rw [cpoP_ok (pn_cpo h), List.length_append]
  have h1 := cmP_len W hs ts ps X T fs
  have h2 : (pnL W hs ts fs ps T).length ≤ 31 := by
    unfold pnL
    split
    · exact sumD_len _
    · simp
  omega
theorem cevn_plain (W X T : Int) (pv : Value) (ac un : Int) (hv tv : Value) (hs : List Int) (ts : List (List Int)) (fv bv : Value) (fs : List (List Int)) (b : List (Int × Int × Int)) (ps : List Int) (w : World) (hr : Reads w hv hs) (hf : Fits hs) (ht : ReadsT w tv ts) (hF : ReadsF w fv fs) (hn : NilC fv) (hb : ReadsP w bv b) (hp : Reads w pv ps) :
    Calls Tryz.prog 5 #[.agg #[.int .i64 W, hv, tv, .int .i64 X], .agg #[.int .i64 T, fv, bv], pv, .int .i64 ac, .int .i64 un] w fun e w' => e = .returned (.bool true) ∧ Kpt w w' := by
  have A1 := fun w' (k : Kpt w w') => night_any W X T hv tv pv fv bv hs ps ts fs b w' (hr.kpt k) hf (ht.kpt k) (hp.kpt k) (hF.kpt k) hn (hb.kpt k)
  have L1 := fun w' (k : Kpt w w') => balance_any bv b ac un w' (hb.kpt k)
  obtain ⟨ah, ch, rfl, -⟩ := _root_.id hr
  obtain ⟨at', ct, rfl, -⟩ := _root_.id ht
  obtain ⟨a, c, rfl, -⟩ := _root_.id hF
  obtain ⟨ab, cb, rfl, -⟩ := _root_.id hb
  by_cases h : ntE W hs ts X fs ps T b = 0
  · obtain ⟨h1, h2, h3, h4, h5⟩ := nt_0 h
    have hw := nt_wld h
    have nb := nt_book h
    have hlb := (wld_0 h2).2.2
    have l60 := ck60 (wld_0 h2).2.1
    have hlen := nig_len (X := X) h3 l60
    rw [h, show ntT W hs ts X fs ps T b = steR W hs T 1 from if_pos h, show ntF W hs ts X fs ps T b = cmF W hs ts T fs from if_pos h, show ntB W hs ts X fs ps T b = nigB W hs ts X fs ps T b from if_pos h, show ntP W hs ts X fs ps T b = nigP W hs ts X fs ps T b from if_pos h] at A1
    have hl : ∀ l ∈ cmF W hs ts T fs, failEL l = 0 := ck_fail (wld_0 hw).2.1
    have CK := fun w' v1 b1 (r1 : ReadsF w' v1 (cmF W hs ts T fs)) (r2 : ReadsP w' b1 (nigB W hs ts X fs ps T b)) => wcheck_run (steR W hs T 1) v1 b1 _ _ w' r1 r2
    rw [hw] at CK
    have e1 := bal_two hlb ac un
    have e2 := bal_two nb.1 ac un
    have eE : balE (nigB W hs ts X fs ps T b) ac un = balE b ac un := by
      rcases e1 with ⟨p1, q1, -⟩ | ⟨p1, q1, -⟩ <;> rcases e2 with ⟨p2, q2, -⟩ | ⟨p2, q2, -⟩
      · rw [q1, q2]
      · rw [p1] at p2; cases p2
      · rw [p1] at p2; cases p2
      · rw [q1, q2]
    have sm : sumAt (nigP W hs ts X fs ps T b) ac un + balR b ac un = balR (nigB W hs ts X fs ps T b) ac un := by
      rcases e1 with ⟨p1, -, q1⟩ | ⟨p1, -, q1⟩ <;> rcases e2 with ⟨p2, -, q2⟩ | ⟨p2, -, q2⟩
      · rw [q1, q2, nb.2.2]; omega
      · rw [p1] at p2; cases p2
      · rw [p1] at p2; cases p2
      · rw [q1, q2]
        rw [sumAt_none fun p hp' e => by
          have := pt_t (nb.2.1 p hp')
          rw [show plB ac un = true by unfold plB; exact decide_eq_true (by omega)] at p1
          cases p1]
        rfl
    have am : ∀ l, linE l = 0 → amtB (balR l ac un) = true := fun l hl' => by
      rcases bal_two hl' ac un with ⟨-, -, q1⟩ | ⟨-, -, q1⟩
      · rw [q1]; exact strict_amt (lin_0 hl').2.1 ac un
      · rw [q1]; decide
    refine cev_ok W X T ac un ah at' a ab hs.length ch ts.length ct fs.length c b.length cb pv w hs ts fs (cmF W hs ts T fs) (nigB W hs ts X fs ps T b) (nigP W hs ts X fs ps T b) (steR W hs T 1) (balR b ac un) (balR (nigB W hs ts X fs ps T b) ac un) (balE b ac un) hr hf ht (clsE_0 (rul_0 h1).2.1) hF (ste_one h5).1 l60 (by unfold cmF; rw [List.length_map]) (evn_ok h4)
      (fun l hl' => flB_fail (hl l hl')) (inp_lin nb.1) (inP_of nb.2.1) hlen nb.2.1 (am _ hlb) (am _ nb.1) ?_ CK (fun w' k => ?_) (fun w' b1 r => ?_) A1
    · unfold Hid
      rw [List.sum_append, amtsOf_sum]
      simpa using sm
    · refine (L1 w' k).mono ?_
      rintro e w'' ⟨rfl, g⟩
      exact ⟨rfl, g.kpt⟩
    · refine (balance_any b1 _ ac un w' r).mono ?_
      rintro e w'' ⟨rfl, g⟩
      exact ⟨by rw [eE], g.kpt⟩
  · have e1 : ntT W hs ts X fs ps T b = 0 := if_neg h
    have e2 : ntF W hs ts X fs ps T b = [] := if_neg h
    have e3 : ntB W hs ts X fs ps T b = [] := if_neg h
    have e4 : ntP W hs ts X fs ps T b = [] := if_neg h
    rw [e1, e2, e3, e4] at A1
    exact cev_no W X T ac un ah at' a ab hs.length ch ts.length ct fs.length c b.length cb pv w _ (bne_iff_ne.2 h) A1

end Go.Proofs.YthaahebggboliaaGreat
