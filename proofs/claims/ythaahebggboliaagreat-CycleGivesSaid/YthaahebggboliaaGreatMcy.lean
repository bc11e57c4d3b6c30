/-
  Merged: BookO, BookQ, FailG, LawCG, LawCGm.
-/
import Derived.Test.YthaahebggboliaaGreatMcv
import Derived.Test.YthaahebggboliaaGreatMg
import Derived.Test.YthaahebggboliaaGreatMf2
import Derived.Test.YthaahebggboliaaGreatMcr
-- BookO
namespace Go.Proofs.YthaahebggboliaaGreat
open Go.RowKit
set_option linter.unusedVariables false

/-- what stands above nought -/
def posP (l : List (Int × Int × Int)) : List (Int × Int × Int) := l.filter fun p => decide (0 < p.2.2)
def posS (l : List (Int × Int × Int)) (u : Nat) : Int := unitS (posP l) u
theorem posP_pt {l : List (Int × Int × Int)} (h : ∀ p ∈ l, ptB p = true) : ∀ p ∈ posP l, ptB p = true := fun p hp => h p (List.mem_filter.1 hp).1
theorem posP_len (l : List (Int × Int × Int)) : (posP l).length ≤ l.length := List.length_filter_le _ _
theorem pos_step {ps : List (Int × Int × Int)} {k : Nat} (hk : k < ps.length) (h : 0 < (ps.getD k default).2.2) (x : Nat) : posS (ps.take (k + 1)) x = posS (ps.take k) x + (if (ps.getD k default).2.1 = (x : Int) then (ps.getD k default).2.2 else 0) := by
  unfold posS posP
  rw [List.take_succ_eq_append_getElem hk, List.filter_append, unitS_append, List.getD_eq_getElem?_getD, List.getElem?_eq_getElem hk] at *
  simp only [Option.getD_some] at h ⊢
  rw [List.filter_cons_of_pos (by simpa using h)]
  simp [unitS]
theorem pos_stay {ps : List (Int × Int × Int)} {k : Nat} (hk : k < ps.length) (h : ¬ 0 < (ps.getD k default).2.2) (x : Nat) : posS (ps.take (k + 1)) x = posS (ps.take k) x := by
  unfold posS posP
  rw [List.take_succ_eq_append_getElem hk, List.filter_append, unitS_append]
  rw [List.getD_eq_getElem?_getD, List.getElem?_eq_getElem hk] at h
  simp only [Option.getD_some] at h
  rw [List.filter_cons_of_neg (by simpa using h)]
  simp [unitS]
theorem okS_pos {ps : List (Int × Int × Int)} (h : ∀ p ∈ ps, ptB p = true) (hn : ps.length ≤ 4096) (k x : Nat) : okS (posS (ps.take k) x) := by
  have h1 := unitS_bd (l := posP (ps.take k)) (posP_pt fun z hz => h z (List.mem_of_mem_take hz)) x
  have h2 := posP_len (ps.take k)
  rw [List.length_take] at h2
  exact okS_mk (k := (posP (ps.take k)).length) (by omega) h1.1 h1.2

/-- what Trial answers -/
def TrialEnd (w : World) (l : List (Int × Int × Int)) (e : Ending) (w' : World) : Prop :=
  Grew w w' ∧ ((linE l ≠ 0 ∧ e = .returned (.tuple #[.slice none 0 0, .int .i64 (linE l)])) ∨
    (linE l = 0 ∧ (((∀ u, u < 21 → amtB (posS l u) = true) ∧ ∃ g, w.heap.size ≤ g ∧ e = .returned (.tuple #[.slice (some ⟨g, 0, none⟩) 21 21, .int .i64 0]) ∧ Row w' g ((List.range 21).map (posS l))) ∨
      ((∃ u, u < 21 ∧ amtB (posS l u) = false) ∧ e = .returned (.tuple #[.slice none 0 0, .int .i64 8])))))

theorem trial_bad (v : Value) (l : List (Int × Int × Int)) (w : World) (hl : ReadsP w v l) (h : linE l ≠ 0) : Calls Tryz.prog 67 #[v] w (TrialEnd w l) := by
  have LB := Lib.hid (lines_any v l w hl)
  have HH := Lib.hid h
  have q : (linE l != 0) = true := bne_iff_ne.2 h
  clear h hl
  go_enter Tryz.func67, Tryz.ntmps67
  go_wp2_with (go_at_call 57; (with_reducible refine LB.out.mono ?_); rintro e w1 ⟨rfl, g1⟩)
  go_ret2
  exact ⟨g1, .inl ⟨HH.out, rfl⟩⟩

theorem amts_trial {w w1 w' : World} {l : List (Int × Int × Int)} {e : Ending} (h : linE l = 0) (g : Grew w w1) (k : AmtsEnd w1 21 (posS l) e w') : TrialEnd w l e w' := by
  obtain ⟨g2, r⟩ := k
  refine ⟨gtr g g2, .inr ⟨h, ?_⟩⟩
  rcases r with ⟨a, b, hb, c, d⟩ | r
  · exact .inl ⟨a, b, Nat.le_trans g.below.size hb, c, d⟩
  · exact .inr r

set_option maxHeartbeats 4000000 in
set_option maxRecDepth 100000 in
theorem trial_some (b off cap : Nat) (ps : List (Int × Int × Int)) (w : World) (hl : ReadsP w (.slice (some ⟨b, off, none⟩) ps.length cap) ps) (h : linE ps = 0) (hc : ∀ j, j < ps.length → PtAt w b (off + j * 3) (ps.getD j default)) :
    Calls Tryz.prog 67 #[.slice (some ⟨b, off, none⟩) ps.length cap] w (TrialEnd w ps) := by
  have LB := Lib.hid (h ▸ lines_any _ ps w hl)
  obtain ⟨hm, hs, -⟩ := lin_0 h
  have HC := Lib.hid hc
  have HP := Lib.hid (strict_pt hs)
  have HH := Lib.hid h
  clear hc hl hs h
  go_enter Tryz.func67, Tryz.ntmps67
  go_wp2_with (go_at_call 57; (with_reducible refine LB.out.mono ?_); rintro e w0 ⟨rfl, g0⟩; have G0 := Lib.hid g0; clear g0)
  go_loopw [15] (fun i wr => ∃ k : Nat, k ≤ ps.length ∧ i = .int .i64 k ∧ Hid (Blk wr w0.heap.size (sumsC 21 (posS (ps.take k))) 150) ∧ Hid (Grew w0 wr)) (fun i _ => ps.length - (intOf i).toNat)
  case atStart => exact ⟨0, Nat.zero_le _, rfl, sums_made w0, (Grew.refl _).alloc _ _⟩
  case round =>
    obtain ⟨k, hk, rfl, HB, HG⟩ := hrel
    by_cases hlt : k < ps.length
    · obtain ⟨c0, c1, c2⟩ := ((HC.out k hlt).grew G0.out).grew HG.out
      have hq := pt_t (HP.out _ (getP_mem hlt))
      have hst := Lib.hid (pos_step hlt)
      have hsy := Lib.hid (pos_stay hlt)
      have hok := okS_pos HP.out (by omega) k
      generalize ps.getD k default = p at c0 c1 c2 hq hst hsy
      obtain ⟨A, U, N⟩ := p
      simp only at c0 c1 c2 hq
      obtain ⟨u, rfl⟩ : ∃ u : Nat, U = (u : Int) := ⟨U.toNat, by omega⟩
      obtain ⟨-, -, -, hu, hz, hn0, hn1⟩ := hq
      have HOK := Lib.hid (hok u); clear hok
      have hu' : u < 21 := by omega
      clear hz
      by_cases hpos : 0 < N
      · have HST := Lib.hid (hst.out hpos)
        clear hst hsy
        have d0 : wr.cell? ⟨w0.heap.size, u * 2, none⟩ = some (.int .i64 (hiOf (posS (ps.take k) u))) := (HB.out.cell _).trans (sums_hi 21 _ u hu')
        have d1 : wr.cell? ⟨w0.heap.size, u * 2 + 1, none⟩ = some (.int .u64 (loOf (posS (ps.take k) u))) := (HB.out.cell _).trans (sums_lo 21 _ u hu')
        go_wp2
        have e0 : (wr.alloc (.cells #[.int .i64 A, .int .i64 (u : Int), .int .i64 N] 55)).cell? ⟨wr.heap.size, 0, none⟩ = some (.int .i64 A) := (Blk.made wr _ _).cell 0
        have e1 : (wr.alloc (.cells #[.int .i64 A, .int .i64 (u : Int), .int .i64 N] 55)).cell? ⟨wr.heap.size, 1, none⟩ = some (.int .i64 (u : Int)) := (Blk.made wr _ _).cell 1
        have e2 : (wr.alloc (.cells #[.int .i64 A, .int .i64 (u : Int), .int .i64 N] 55)).cell? ⟨wr.heap.size, 2, none⟩ = some (.int .i64 N) := (Blk.made wr _ _).cell 2
        have GA := Lib.hid (HG.out.alloc #[.int .i64 A, .int .i64 (u : Int), .int .i64 N] 55)
        have WA := Lib.hid (HB.out.alloc (.cells #[.int .i64 A, .int .i64 (u : Int), .int .i64 N] 55))
        clear d0 d1 c0 c1 c2
        generalize wr.alloc (.cells #[.int .i64 A, .int .i64 (u : Int), .int .i64 N] 55) = W1 at *
        have d0 : W1.cell? ⟨w0.heap.size, u * 2, none⟩ = some (.int .i64 (hiOf (posS (ps.take k) u))) := (WA.out.cell _).trans (sums_hi 21 _ u hu')
        have d1 : W1.cell? ⟨w0.heap.size, u * 2 + 1, none⟩ = some (.int .u64 (loOf (posS (ps.take k) u))) := (WA.out.cell _).trans (sums_lo 21 _ u hu')
        have hlt2 : w0.heap.size < wr.heap.size := HB.out.lt
        have hne : wr.heap.size ≠ w0.heap.size := by omega
        have hne' : w0.heap.size ≠ wr.heap.size := by omega
        have hu0 : (0 : Int) ≤ (u : Int) := by omega
        have hu1 : (u : Int) < 21 := by omega
        go_region_with (go_at_call 116; (with_reducible refine (plus_at (posS (ps.take k) u) N _ HOK.out (by omega) (by omega)).mono ?_); rintro e w1 ⟨rfl, g1⟩; have k1 := g1.cell (cell_in (w := W1.drew) e1) e1; have B1 := Lib.hid ((WA.out.drew).grew g1); have d2 : w1.cell? ⟨w0.heap.size, u * 2, none⟩ = some (.int .i64 (hiOf (posS (ps.take k) u))) := (B1.out.cell _).trans (sums_hi 21 _ u hu'); have d3 : w1.cell? ⟨w0.heap.size, u * 2 + 1, none⟩ = some (.int .u64 (loOf (posS (ps.take k) u))) := (B1.out.cell _).trans (sums_lo 21 _ u hu'); have f0 := B1.out.frozen (u * 2); have f1 := B1.out.frozen (u * 2 + 1); have G1 := Lib.hid (gtr GA.out.drew g1); clear g1)
        all_goals go_wp2
        all_goals go_roundw
        all_goals first
          | (case rel => exact ⟨k + 1, by omega, by go_num, unit_put hu' HST.out B1.out, (G1.out.setCell (by simp) _).setCell (by simp) _⟩)
          | (case measure => simp [intOf]; omega)
      · have HSY := Lib.hid (hsy.out hpos)
        clear hst hsy
        have hpos' : decide (0 < N) = false := decide_eq_false hpos
        have HBx : Hid (Blk wr w0.heap.size (sumsC 21 (posS (ps.take (k + 1)))) 150) := by
          unfold Hid
          rw [sums_ext (g := posS (ps.take k)) fun x _ => HSY.out x]
          exact HB.out
        go_wp2
        go_roundw
        case rel => exact ⟨k + 1, by omega, by go_num, HBx.out.alloc _, HG.out.alloc _ _⟩
        case measure => simp [intOf]; omega
    · have e : ps.take k = ps := List.take_of_length_le (by omega)
      rw [e] at HB
      clear e
      have HX := Lib.hid (fun (_ : True) => amounts_run w0.heap.size 21 21 (posS ps) _ wr (by omega) HB.out)
      have HK := Lib.hid (fun e w' => amts_trial (e := e) (w' := w') HH.out (gtr G0.out HG.out))
      go_wp2_with (go_at_call 117; (with_reducible refine (HX.out trivial).mono ?_); intro e w4 h4; have T4 := Lib.hid (HK.out e w4 h4); obtain ⟨_, ⟨_, g4, _, rfl, _⟩ | ⟨_, rfl⟩⟩ := h4)
      all_goals
        go_ret2
        exact T4.out

set_option maxRecDepth 100000 in
theorem trial_none (a : Option Addr) (cap : Nat) (w : World) :
    Calls Tryz.prog 67 #[.slice a 0 cap] w (TrialEnd w []) := by
  have LB := Lib.hid (lines_none a cap w)
  have HH : Hid (linE [] = 0) := (by decide : linE [] = 0)
  go_enter Tryz.func67, Tryz.ntmps67
  go_wp2_with (go_at_call 57; (with_reducible refine LB.out.mono ?_); rintro e w0 ⟨rfl, g0⟩; have G0 := Lib.hid g0; clear g0)
  go_loopw [15] (fun i wr => i = .int .i64 0 ∧ Hid (Blk wr w0.heap.size (sumsC 21 (posS [])) 150) ∧ Hid (Grew w0 wr)) (fun _ _ => 0)
  case atStart => exact ⟨rfl, sums_made w0, (Grew.refl _).alloc _ _⟩
  case round =>
    obtain ⟨rfl, HB, HG⟩ := hrel
    have HX := Lib.hid (fun (_ : True) => amounts_run w0.heap.size 21 21 (posS []) _ wr (by omega) HB.out)
    have HK := Lib.hid (fun e w' => amts_trial (e := e) (w' := w') HH.out (gtr G0.out HG.out))
    go_wp2_with (go_at_call 117; (with_reducible refine (HX.out trivial).mono ?_); intro e w4 h4; have T4 := Lib.hid (HK.out e w4 h4); obtain ⟨_, ⟨_, g4, _, rfl, _⟩ | ⟨_, rfl⟩⟩ := h4)
    all_goals
      go_ret2
      exact T4.out

theorem trial_any (v : Value) (l : List (Int × Int × Int)) (w : World) (hl : ReadsP w v l) : Calls Tryz.prog 67 #[v] w (TrialEnd w l) := by
  by_cases h : linE l = 0
  · rcases hl.cell with ⟨rfl, a, cap, rfl⟩ | ⟨_, b, off, cap, rfl, hc⟩
    · exact trial_none a cap w
    · exact trial_some b off cap l w hl h hc
  · exact trial_bad v l w hl h

end Go.Proofs.YthaahebggboliaaGreat

-- BookQ
namespace Go.Proofs.YthaahebggboliaaGreat
open Go.RowKit
set_option linter.unusedVariables false

theorem lit3 (w : World) (T : TypeId) (p q r : Int × Int × Int) (h : InP [p, q, r]) : ReadsP (w.alloc (.cells #[.int .i64 p.1, .int .i64 p.2.1, .int .i64 p.2.2, .int .i64 q.1, .int .i64 q.2.1, .int .i64 q.2.2, .int .i64 r.1, .int .i64 r.2.1, .int .i64 r.2.2] T)) (.slice (some ⟨w.heap.size, 0, none⟩) 3 3) [p, q, r] := by
  refine ⟨_, 3, rfl, (fun e => by cases e), by unfold maxLen; simp, h, fun j hj => ⟨w.heap.size, 0, rfl, ?_⟩⟩
  have B := Blk.made w #[.int .i64 p.1, .int .i64 p.2.1, .int .i64 p.2.2, .int .i64 q.1, .int .i64 q.2.1, .int .i64 q.2.2, .int .i64 r.1, .int .i64 r.2.1, .int .i64 r.2.2] T
  rcases (show j = 0 ∨ j = 1 ∨ j = 2 by simp at hj; omega) with rfl | rfl | rfl
  · exact ⟨B.cell 0, B.cell 1, B.cell 2⟩
  · exact ⟨B.cell 3, B.cell 4, B.cell 5⟩
  · exact ⟨B.cell 6, B.cell 7, B.cell 8⟩
/-- a post that goes, of which the book is known -/
theorem post_goes (v u : Value) (b l R : List (Int × Int × Int)) (w : World) (hb : ReadsP w v b) (hl : ReadsP w u l) (k : Posted b l R) :
    Calls Tryz.prog 65 #[v, u] w fun e w' => ∃ a cap, e = .returned (.tuple #[.slice a R.length cap, .int .i64 0]) ∧ Hid (ReadsP w' (.slice a R.length cap) R) ∧ Hid (Kpt w w') := by
  refine (post_any v u b l w hb hl).mono ?_
  rintro e w' ⟨hk, R', E, v', hr, ho, rfl⟩
  obtain ⟨rfl, rfl⟩ := post_known hr k
  obtain ⟨a, cap, rfl⟩ := ho.form
  exact ⟨a, cap, rfl, ho.reads (inP_of (strict_pt k.book.strict)), hk⟩
theorem turn_goes (v : Value) (l : List (Int × Int × Int)) (w : World) (hl : ReadsP w v l) (h : chkE l = 0) :
    Calls Tryz.prog 66 #[v] w fun e w' => ∃ a cap, e = .returned (.tuple #[.slice a l.length cap, .int .i64 0]) ∧ Hid (ReadsP w' (.slice a l.length cap) (turnP l)) ∧ Hid (Kpt w w') := by
  refine (turn_any v l w hl).mono ?_
  rintro e w' ⟨hk, ⟨h1, _⟩ | ⟨_, a, cap, ho, rfl⟩⟩
  · exact absurd h h1
  · exact ⟨a, cap, rfl, ho.reads (inP_of (turn_pt (chk_0 h).2.2.1)), hk⟩

theorem bb_post1 (w : World) (T : TypeId) : Calls Tryz.prog 65 #[.slice none 0 0, .slice (some ⟨w.heap.size, 0, none⟩) 3 3] (w.alloc (.cells #[.int .i64 2, .int .i64 0, .int .i64 5, .int .i64 1, .int .i64 0, .int .i64 (-8), .int .i64 3, .int .i64 0, .int .i64 3] T)) fun e w' => ∃ a cap, e = .returned (.tuple #[.slice a 3 cap, .int .i64 0]) ∧ Hid (ReadsP w' (.slice a 3 cap) B0) ∧ Hid (ReadsP w' (.slice (some ⟨w.heap.size, 0, none⟩) 3 3) L0) ∧ Hid (Kpt w w') := by
  have hL : ReadsP (w.alloc (.cells #[.int .i64 2, .int .i64 0, .int .i64 5, .int .i64 1, .int .i64 0, .int .i64 (-8), .int .i64 3, .int .i64 0, .int .i64 3] T)) (.slice (some ⟨w.heap.size, 0, none⟩) 3 3) L0 := lit3 w T (2, 0, 5) (1, 0, -8) (3, 0, 3) (inP_of (by decide))
  refine (post_goes _ _ [] L0 B0 _ (readsP_nil _ none 0 fun _ => rfl) hL posted_0).mono ?_
  rintro e w' ⟨a, cap, rfl, h1, h2⟩
  exact ⟨a, cap, rfl, h1, hL.kpt h2.out, ktr ((Kpt.refl w).alloc _) h2.out⟩
theorem bb_bal (v : Value) (w : World) (h : ReadsP w v B0) : Calls Tryz.prog 29 #[v, .int .i64 1, .int .i64 0] w fun e w' => e = .returned (.tuple #[.int .i64 (-8), .int .i64 0]) ∧ Hid (Kpt w w') := by
  refine (balance_any v B0 1 0 w h).mono ?_
  rintro e w' ⟨rfl, g⟩
  exact ⟨by rw [show balR B0 1 0 = -8 by decide, show balE B0 1 0 = 0 by decide], g.kpt⟩
theorem bb_turn (v : Value) (w : World) (h : ReadsP w v L0) : Calls Tryz.prog 66 #[v] w fun e w' => ∃ a cap, e = .returned (.tuple #[.slice a 3 cap, .int .i64 0]) ∧ Hid (ReadsP w' (.slice a 3 cap) T0) ∧ Hid (Kpt w w') := by
  refine (turn_goes v L0 w h chk_L0).mono ?_
  rintro e w' ⟨a, cap, rfl, h1, h2⟩
  exact ⟨a, cap, rfl, by rw [← turn_L0]; exact h1.out, h2⟩
theorem bb_post2 (v u : Value) (w : World) (h : ReadsP w v B0) (h' : ReadsP w u T0) : Calls Tryz.prog 65 #[v, u] w fun e w' => ∃ a cap, e = .returned (.tuple #[.slice a 0 cap, .int .i64 0]) ∧ Hid (Kpt w w') := by
  refine (post_goes v u B0 T0 [] w h h' posted_1).mono ?_
  rintro e w' ⟨a, cap, rfl, h1, h2⟩
  exact ⟨a, cap, rfl, h2⟩
theorem bb_trial (v : Value) (w : World) (h : ReadsP w v B0) : Calls Tryz.prog 67 #[v] w fun e w' => ∃ g, e = .returned (.tuple #[.slice (some ⟨g, 0, none⟩) 21 21, .int .i64 0]) ∧ w'.cell? ⟨g, 0, none⟩ = some (.int .i64 8) ∧ Hid (Kpt w w') := by
  refine (trial_any v B0 w h).mono ?_
  rintro e w' ⟨hg, ⟨h1, _⟩ | ⟨_, ⟨_, g, hg', rfl, hr⟩ | ⟨⟨u, hu, hx⟩, _⟩⟩⟩
  · exact absurd (by decide) h1
  · exact ⟨g, rfl, hr.cell (j := 0) (by simp), hg.kpt⟩
  · exfalso
    have : ∀ u, u < 21 → amtB (posS B0 u) = true := by decide
    rw [this u hu] at hx
    cases hx
theorem bb_post3 (v : Value) (a : Option Addr) (w : World) (h : ReadsP w v B0) (h' : ReadsP w (.slice a 3 3) L0) : Calls Tryz.prog 65 #[v, .slice a 2 3] w fun e w' => ∃ a' c', e = .returned (.tuple #[.slice a' 0 c', .int .i64 4]) ∧ Hid (Kpt w w') := by
  refine (post_any v _ B0 (L0.take 2) w h (h'.take 2 (by decide))).mono ?_
  rintro e w' ⟨hk, R, E, v', hr, ho, rfl⟩
  obtain ⟨rfl, rfl⟩ := res_2 hr
  obtain ⟨a', c', rfl⟩ := ho.form
  exact ⟨a', c', rfl, hk⟩

set_option maxRecDepth 100000 in
set_option maxHeartbeats 4000000 in
theorem bookBegun (w : World) : Calls Tryz.prog 27 #[] w fun e w' => e = .returned (.bool true) ∧ Kpt w w' := by
  have CN := Lib.hid (fun w => bookCheck_none none 0 w)
  have LN := Lib.hid (fun w => lines_none none 0 w)
  go_enter Tryz.func27, Tryz.ntmps27
  go_wp2_with (first
    | (go_at_call 65; (with_reducible refine (bb_post1 _ _).mono ?_); rintro e w1 ⟨a1, c1, rfl, B, L, G⟩)
    | (go_at_call 29; (with_reducible refine (bb_bal _ _ B.out).mono ?_); rintro e w2 ⟨rfl, k⟩; have B := Lib.hid (B.out.kpt k.out); have L := Lib.hid (L.out.kpt k.out); have G := Lib.hid (ktr G.out k.out); clear k)
    | (go_at_call 66; (with_reducible refine (bb_turn _ _ L.out).mono ?_); rintro e w3 ⟨a3, c3, rfl, T, k⟩; have B := Lib.hid (B.out.kpt k.out); have L := Lib.hid (L.out.kpt k.out); have G := Lib.hid (ktr G.out k.out); clear k)
    | (go_at_call 65; (with_reducible refine (bb_post2 _ _ _ B.out T.out).mono ?_); rintro e w4 ⟨a4, c4, rfl, k⟩; have B := Lib.hid (B.out.kpt k.out); have L := Lib.hid (L.out.kpt k.out); have T := Lib.hid (T.out.kpt k.out); have G := Lib.hid (ktr G.out k.out); clear k)
    | (go_at_call 67; (with_reducible refine (bb_trial _ _ B.out).mono ?_); rintro e w5 ⟨g5, rfl, s5, k⟩; have S5 := Lib.hid s5; clear s5; have B := Lib.hid (B.out.kpt k.out); have L := Lib.hid (L.out.kpt k.out); have T := Lib.hid (T.out.kpt k.out); have G := Lib.hid (ktr G.out k.out); clear k)
    | (go_at_call 65; (with_reducible refine (bb_post3 _ _ _ B.out L.out).mono ?_); rintro e w6 ⟨a6, c6, rfl, k⟩; have S6 := Lib.hid (k.out.cell S5.out); have s6 := S6.out; have B := Lib.hid (B.out.kpt k.out); have T := Lib.hid (T.out.kpt k.out); have G := Lib.hid (ktr G.out k.out); clear k; have BL := Lib.hid (lit3 w6 55 (1, 0, -8) (2, 0, 5) (3, 0, 3) (inP_of (by decide))))
    | (go_at_call 19; (with_reducible refine (same_any _ _ B0 _ (B.out.kpt ((Kpt.refl _).alloc _)) BL.out).mono ?_); rintro e w7 ⟨rfl, k⟩; have s7 := k.cell (((Kpt.refl _).alloc _).cell S6.out); have S7 := Lib.hid s7; have T := Lib.hid (T.out.kpt (ktr ((Kpt.refl _).alloc _) k)); have G := Lib.hid (ktr (G.out.alloc _) k); clear k B BL; have TL := Lib.hid (lit3 w7 55 (3, 0, -3) (1, 0, 8) (2, 0, -5) (inP_of (by decide))))
    | (go_at_call 19; (with_reducible refine (same_any _ _ T0 _ (T.out.kpt ((Kpt.refl _).alloc _)) TL.out).mono ?_); rintro e w8 ⟨rfl, k⟩; have s8 := k.cell (((Kpt.refl _).alloc _).cell S7.out); have G := Lib.hid (ktr (G.out.alloc _) k); clear k)
    | (go_at_call 68; (with_reducible refine (CN.out _).mono ?_); rintro e w9 ⟨rfl, k⟩; have G := Lib.hid (ktr G.out k.kpt); clear k)
    | (go_at_call 57; (with_reducible refine (LN.out _).mono ?_); rintro e w10 ⟨rfl, k⟩; have G := Lib.hid (ktr G.out k.kpt); clear k))
  go_ret
  exact ⟨rfl, G.out⟩

end Go.Proofs.YthaahebggboliaaGreat

-- FailG
namespace Go.Proofs.YthaahebggboliaaGreat
open Go.RowKit Go.Maps
set_option linter.unusedVariables false

theorem readsF_made {w : World} {cs : Array Value} {fs : List (List Int)} (hm : fs.length ≤ maxLen) (hb : ∀ l ∈ fs, FlB l) (h : ∀ k, k < fs.length → ∀ j, j < 10 → cs[k * 10 + j]? = some (.int .i64 ((fs.getD k []).getD j 0))) (cap : Nat) :
    ReadsF (w.alloc (.cells cs 42)) (.slice (some ⟨w.heap.size, 0, none⟩) fs.length cap) fs :=
  ⟨_, cap, rfl, hm, hb, fun k hk => ⟨_, _, rfl, fun j hj => by
    rw [Nat.zero_add, cell_of_row _ _ _ cs _ (0, 0) (heap_alloc_new w _)]
    exact h k hk j hj⟩⟩
theorem b0 : FlB [7, 1, 2, 0, 3, 739935, 100, 0, 0, 0] := by unfold FlB; decide
theorem b1 : FlB [7, 1, 2, 0, 3, 739935, 100, 30, 0, 0] := by unfold FlB; decide
theorem b2 : FlB [7, 1, 2, 0, 3, 739935, 100, 30, 50, 0] := by unfold FlB; decide
theorem fb_1 (w : World) : Calls Tryz.prog 76 #[.agg #[.int .i64 7, .int .i64 1, .int .i64 2, .int .i64 0, .int .i64 3, .int .i64 739935, .int .i64 100, .int .i64 0, .int .i64 0, .int .i64 0], .int .i64 30] w fun e w' => e = .returned (.tuple #[.agg #[.int .i64 7, .int .i64 1, .int .i64 2, .int .i64 0, .int .i64 3, .int .i64 739935, .int .i64 100, .int .i64 30, .int .i64 0, .int .i64 0], .int .i64 0]) ∧ Kpt w w' :=
  deliver_ok 7 1 2 0 3 739935 100 0 0 0 30 w (by decide) (by decide) (by decide) (by decide) (by decide)
theorem fb_2 (w : World) : Calls Tryz.prog 77 #[.agg #[.int .i64 7, .int .i64 1, .int .i64 2, .int .i64 0, .int .i64 3, .int .i64 739935, .int .i64 100, .int .i64 30, .int .i64 0, .int .i64 0], .int .i64 50] w fun e w' => e = .returned (.tuple #[.agg #[.int .i64 7, .int .i64 1, .int .i64 2, .int .i64 0, .int .i64 3, .int .i64 739935, .int .i64 100, .int .i64 30, .int .i64 50, .int .i64 0], .int .i64 0]) ∧ Kpt w w' :=
  buy_ok 7 1 2 0 3 739935 100 30 0 0 50 w (by decide) (by decide) (by decide) (by decide) (by decide)
theorem fb_3 (w : World) : Calls Tryz.prog 78 #[.agg #[.int .i64 7, .int .i64 1, .int .i64 2, .int .i64 0, .int .i64 3, .int .i64 739935, .int .i64 100, .int .i64 30, .int .i64 50, .int .i64 0]] w fun e w' => e = .returned (.tuple #[.agg #[.int .i64 7, .int .i64 1, .int .i64 2, .int .i64 0, .int .i64 3, .int .i64 739935, .int .i64 100, .int .i64 30, .int .i64 50, .int .i64 20], .int .i64 20, .int .i64 0]) ∧ Kpt w w' :=
  pay_ok 7 1 2 0 3 739935 100 30 50 0 w 20 (by decide) (by decide) (by decide) (by decide) (by decide) (by decide) (by decide)
theorem fb_4 (w : World) : Calls Tryz.prog 34 #[.agg #[.int .i64 7, .int .i64 1, .int .i64 2, .int .i64 0, .int .i64 3, .int .i64 739935, .int .i64 100, .int .i64 30, .int .i64 50, .int .i64 0]] w fun e w' => e = .returned (.tuple #[.int .i64 20, .int .i64 0]) ∧ Kpt w w' := by
  have := fopenX_run 7 1 2 0 3 739935 100 30 50 0 w
  rwa [show openV 7 1 2 0 3 739935 100 30 50 0 = 20 by decide, show failE 7 1 2 0 3 739935 100 30 50 0 = 0 by decide] at this
theorem fb_5 (w : World) (H : Nat) (hH : w.heap.size = H) : Calls Tryz.prog 36 #[.slice (some ⟨H, 0, none⟩) 1 1, .int .i64 7] (w.alloc (.cells #[.int .i64 7, .int .i64 1, .int .i64 2, .int .i64 0, .int .i64 3, .int .i64 739935, .int .i64 100, .int .i64 0, .int .i64 0, .int .i64 0] 42)) fun e w' => e = .returned (.tuple #[.int .i64 0, .int .i64 0]) ∧ Kpt (w.alloc (.cells #[.int .i64 7, .int .i64 1, .int .i64 2, .int .i64 0, .int .i64 3, .int .i64 739935, .int .i64 100, .int .i64 0, .int .i64 0, .int .i64 0] 42)) w' := by
  subst hH
  have hr := readsF_made (w := w) (cs := #[.int .i64 7, .int .i64 1, .int .i64 2, .int .i64 0, .int .i64 3, .int .i64 739935, .int .i64 100, .int .i64 0, .int .i64 0, .int .i64 0]) (fs := [[7, 1, 2, 0, 3, 739935, 100, 0, 0, 0]]) (by unfold maxLen; decide) (by intro l hl; rw [List.mem_singleton.1 hl]; exact b0) (by
    intro k hk j hj
    have : k = 0 := by simp at hk; exact hk
    subst this
    rcases (show j = 0 ∨ j = 1 ∨ j = 2 ∨ j = 3 ∨ j = 4 ∨ j = 5 ∨ j = 6 ∨ j = 7 ∨ j = 8 ∨ j = 9 by omega) with rfl | rfl | rfl | rfl | rfl | rfl | rfl | rfl | rfl | rfl <;> rfl) 1
  have := (find_run _ _ 7 _ hr).2.2 (by decide +kernel) (by decide +kernel)
  rwa [show idxF 7 [[7, 1, 2, 0, 3, 739935, 100, 0, 0, 0]] 0 = 0 by decide +kernel] at this
theorem fb_6 (w : World) : Calls Tryz.prog 76 #[.agg #[.int .i64 7, .int .i64 1, .int .i64 2, .int .i64 0, .int .i64 3, .int .i64 739935, .int .i64 100, .int .i64 30, .int .i64 50, .int .i64 0], .int .i64 21] w fun e w' => e = .returned (.tuple #[.agg #[.int .i64 0, .int .i64 0, .int .i64 0, .int .i64 0, .int .i64 0, .int .i64 0, .int .i64 0, .int .i64 0, .int .i64 0, .int .i64 0], .int .i64 8]) ∧ Kpt w w' :=
  deliver_bad 7 1 2 0 3 739935 100 30 50 0 21 8 w (by decide) (by decide)
theorem fb_7 (w : World) : Calls Tryz.prog 76 #[.agg #[.int .i64 7, .int .i64 1, .int .i64 2, .int .i64 0, .int .i64 3, .int .i64 739935, .int .i64 100, .int .i64 30, .int .i64 50, .int .i64 20], .int .i64 1] w fun e w' => e = .returned (.tuple #[.agg #[.int .i64 0, .int .i64 0, .int .i64 0, .int .i64 0, .int .i64 0, .int .i64 0, .int .i64 0, .int .i64 0, .int .i64 0, .int .i64 0], .int .i64 5]) ∧ Kpt w w' :=
  deliver_bad 7 1 2 0 3 739935 100 30 50 20 1 5 w (by decide) (by decide)
theorem fb_8 (w : World) : Calls Tryz.prog 79 #[.agg #[.int .i64 0, .int .i64 0, .int .i64 0, .int .i64 0, .int .i64 0, .int .i64 0, .int .i64 0, .int .i64 0, .int .i64 0, .int .i64 0]] w fun e w' => e = .returned (.int .i64 3) ∧ Kpt w w' := by
  have := fcheck_run 0 0 0 0 0 0 0 0 0 0 w
  rwa [show failE 0 0 0 0 0 0 0 0 0 0 = 3 by decide] at this
theorem fb_9 (w : World) (H : Nat) (hH : w.heap.size = H) : Calls Tryz.prog 56 #[.slice (some ⟨H, 0, none⟩) 2 2] (w.alloc (.cells #[.int .i64 7, .int .i64 1, .int .i64 2, .int .i64 0, .int .i64 3, .int .i64 739935, .int .i64 100, .int .i64 30, .int .i64 0, .int .i64 0, .int .i64 7, .int .i64 1, .int .i64 2, .int .i64 0, .int .i64 3, .int .i64 739935, .int .i64 100, .int .i64 30, .int .i64 50, .int .i64 0] 42)) fun e w' => e = .returned (.int .i64 6) ∧ Kpt (w.alloc (.cells #[.int .i64 7, .int .i64 1, .int .i64 2, .int .i64 0, .int .i64 3, .int .i64 739935, .int .i64 100, .int .i64 30, .int .i64 0, .int .i64 0, .int .i64 7, .int .i64 1, .int .i64 2, .int .i64 0, .int .i64 3, .int .i64 739935, .int .i64 100, .int .i64 30, .int .i64 50, .int .i64 0] 42)) w' := by
  subst hH
  have hr := readsF_made (w := w) (cs := #[.int .i64 7, .int .i64 1, .int .i64 2, .int .i64 0, .int .i64 3, .int .i64 739935, .int .i64 100, .int .i64 30, .int .i64 0, .int .i64 0, .int .i64 7, .int .i64 1, .int .i64 2, .int .i64 0, .int .i64 3, .int .i64 739935, .int .i64 100, .int .i64 30, .int .i64 50, .int .i64 0]) (fs := [[7, 1, 2, 0, 3, 739935, 100, 30, 0, 0], [7, 1, 2, 0, 3, 739935, 100, 30, 50, 0]]) (by unfold maxLen; decide) (by
    intro l hl
    simp only [List.mem_cons, List.not_mem_nil, or_false] at hl
    rcases hl with rfl | rfl
    · exact b1
    · exact b2) (by
    intro k hk j hj
    rcases (show k = 0 ∨ k = 1 by simp at hk; omega) with rfl | rfl
    · rcases (show j = 0 ∨ j = 1 ∨ j = 2 ∨ j = 3 ∨ j = 4 ∨ j = 5 ∨ j = 6 ∨ j = 7 ∨ j = 8 ∨ j = 9 by omega) with rfl | rfl | rfl | rfl | rfl | rfl | rfl | rfl | rfl | rfl <;> rfl
    · rcases (show j = 0 ∨ j = 1 ∨ j = 2 ∨ j = 3 ∨ j = 4 ∨ j = 5 ∨ j = 6 ∨ j = 7 ∨ j = 8 ∨ j = 9 by omega) with rfl | rfl | rfl | rfl | rfl | rfl | rfl | rfl | rfl | rfl <;> rfl) 2
  have := checks_run _ _ _ hr
  rwa [show checksE [[7, 1, 2, 0, 3, 739935, 100, 30, 0, 0], [7, 1, 2, 0, 3, 739935, 100, 30, 50, 0]] = 6 by decide +kernel] at this

set_option maxRecDepth 100000 in
set_option maxHeartbeats 8000000 in
theorem failBegun (w : World) : Calls Tryz.prog 32 #[] w fun e w' => e = .returned (.bool true) ∧ Kpt w w' := by
  go_enter Tryz.func32, Tryz.ntmps32
  go_wp2_with (first
    | (go_at_call 47; (with_reducible refine (some_run _).mono ?_); rintro e w1 ⟨rfl, k1⟩; have K1 := Lib.hid (ktr (Kpt.refl w) k1); clear k1)
    | (go_at_call 76; (with_reducible refine (fb_1 _).mono ?_); rintro e w2 ⟨rfl, k1⟩; have K2 := Lib.hid (ktr K1.out k1); clear k1)
    | (refine wp_storeF rfl (.tmp 1) (.tmp 19) rfl w2.heap.size _ _ rfl rfl (Blk.made w2 #[.int .i64 0, .int .i64 0, .int .i64 0, .int .i64 0, .int .i64 0, .int .i64 0, .int .i64 0, .int .i64 0, .int .i64 0, .int .i64 0] 42) rfl rfl (by simp [Value.oneCell']) ?_; intro w3 r9 k9 o9; have K3 := Lib.hid (k9 _ _ (K2.out.alloc _) K2.out.size); have BA := Lib.hid r9; clear r9 k9 o9)
    | (refine wp_loadF rfl (.tmp 1) rfl w2.heap.size _ rfl BA.out rfl ?_)
    | (go_at_call 77; (with_reducible refine (fb_2 _).mono ?_); rintro e w4 ⟨rfl, k1⟩; have K4 := Lib.hid (ktr K3.out k1); have BA := Lib.hid (Blk.kpt BA.out k1); clear k1)
    | (refine wp_storeF rfl (.tmp 3) (.tmp 24) rfl w4.heap.size _ _ rfl rfl (Blk.made w4 #[.int .i64 0, .int .i64 0, .int .i64 0, .int .i64 0, .int .i64 0, .int .i64 0, .int .i64 0, .int .i64 0, .int .i64 0, .int .i64 0] 42) rfl rfl (by simp [Value.oneCell']) ?_; intro w5 r9 k9 o9; have K5 := Lib.hid (k9 _ _ (K4.out.alloc _) K4.out.size); have BA : Hid (Blk w5 w2.heap.size #[.int .i64 7, .int .i64 1, .int .i64 2, .int .i64 0, .int .i64 3, .int .i64 739935, .int .i64 100, .int .i64 30, .int .i64 0, .int .i64 0] 42) := Blk.block (Blk.alloc BA.out _) (o9 _ (by have := BA.out.lt; omega)); have BB := Lib.hid r9; clear r9 k9 o9)
    | (refine wp_loadF rfl (.tmp 3) rfl w4.heap.size _ rfl BB.out rfl ?_)
    | (go_at_call 78; (with_reducible refine (fb_3 _).mono ?_); rintro e w6 ⟨rfl, k1⟩; have K6 := Lib.hid (ktr K5.out k1); have BA := Lib.hid (Blk.kpt BA.out k1); have BB := Lib.hid (Blk.kpt BB.out k1); clear k1)
    | (refine wp_storeF rfl (.tmp 5) (.tmp 29) rfl w6.heap.size _ _ rfl rfl (Blk.made w6 #[.int .i64 0, .int .i64 0, .int .i64 0, .int .i64 0, .int .i64 0, .int .i64 0, .int .i64 0, .int .i64 0, .int .i64 0, .int .i64 0] 42) rfl rfl (by simp [Value.oneCell']) ?_; intro w7 r9 k9 o9; have K7 := Lib.hid (k9 _ _ (K6.out.alloc _) K6.out.size); have BA : Hid (Blk w7 w2.heap.size #[.int .i64 7, .int .i64 1, .int .i64 2, .int .i64 0, .int .i64 3, .int .i64 739935, .int .i64 100, .int .i64 30, .int .i64 0, .int .i64 0] 42) := Blk.block (Blk.alloc BA.out _) (o9 _ (by have := BA.out.lt; omega)); have BB : Hid (Blk w7 w4.heap.size #[.int .i64 7, .int .i64 1, .int .i64 2, .int .i64 0, .int .i64 3, .int .i64 739935, .int .i64 100, .int .i64 30, .int .i64 50, .int .i64 0] 42) := Blk.block (Blk.alloc BB.out _) (o9 _ (by have := BB.out.lt; omega)); have BC := Lib.hid r9; clear r9 k9 o9)
    | (refine wp_loadF rfl (.tmp 5) rfl w6.heap.size _ rfl BC.out rfl ?_)
    | (go_at_call 34; (with_reducible refine (fb_4 _).mono ?_); rintro e w8 ⟨rfl, k1⟩; have K8 := Lib.hid (ktr K7.out k1); have BA := Lib.hid (Blk.kpt BA.out k1); have BB := Lib.hid (Blk.kpt BB.out k1); have BC := Lib.hid (Blk.kpt BC.out k1); clear k1)
    | (go_at_call 47; (with_reducible refine (some_run w8).mono ?_); rintro e w9 ⟨rfl, k1⟩; have K9 := Lib.hid (ktr K8.out k1); have BA := Lib.hid (Blk.kpt BA.out k1); have BB := Lib.hid (Blk.kpt BB.out k1); have BC := Lib.hid (Blk.kpt BC.out k1); clear k1)
    | (go_at_call 36; (with_reducible refine (fb_5 w9 _ rfl).mono ?_); rintro e w10 ⟨rfl, k1⟩; have K10 := Lib.hid (ktr (K9.out.alloc _) k1); have BA := Lib.hid (Blk.kpt (Blk.alloc BA.out _) k1); have BB := Lib.hid (Blk.kpt (Blk.alloc BB.out _) k1); have BC := Lib.hid (Blk.kpt (Blk.alloc BC.out _) k1); clear k1)
    | (go_at_call 76; (with_reducible refine (fb_6 _).mono ?_); rintro e w11 ⟨rfl, k1⟩; have K11 := Lib.hid (ktr K10.out k1); have BA := Lib.hid (Blk.kpt BA.out k1); have BB := Lib.hid (Blk.kpt BB.out k1); have BC := Lib.hid (Blk.kpt BC.out k1); clear k1)
    | (refine wp_storeF rfl (.tmp 12) (.tmp 46) rfl w11.heap.size _ _ rfl rfl (Blk.made w11 #[.int .i64 0, .int .i64 0, .int .i64 0, .int .i64 0, .int .i64 0, .int .i64 0, .int .i64 0, .int .i64 0, .int .i64 0, .int .i64 0] 42) rfl rfl (by simp [Value.oneCell']) ?_; intro w12 r9 k9 o9; have K12 := Lib.hid (k9 _ _ (K11.out.alloc _) K11.out.size); have BA : Hid (Blk w12 w2.heap.size #[.int .i64 7, .int .i64 1, .int .i64 2, .int .i64 0, .int .i64 3, .int .i64 739935, .int .i64 100, .int .i64 30, .int .i64 0, .int .i64 0] 42) := Blk.block (Blk.alloc BA.out _) (o9 _ (by have := BA.out.lt; omega)); have BB : Hid (Blk w12 w4.heap.size #[.int .i64 7, .int .i64 1, .int .i64 2, .int .i64 0, .int .i64 3, .int .i64 739935, .int .i64 100, .int .i64 30, .int .i64 50, .int .i64 0] 42) := Blk.block (Blk.alloc BB.out _) (o9 _ (by have := BB.out.lt; omega)); have BC : Hid (Blk w12 w6.heap.size #[.int .i64 7, .int .i64 1, .int .i64 2, .int .i64 0, .int .i64 3, .int .i64 739935, .int .i64 100, .int .i64 30, .int .i64 50, .int .i64 20] 42) := Blk.block (Blk.alloc BC.out _) (o9 _ (by have := BC.out.lt; omega)); clear r9 k9 o9)
    | (go_at_call 76; (with_reducible refine (fb_7 _).mono ?_); rintro e w13 ⟨rfl, k1⟩; have K13 := Lib.hid (ktr K12.out k1); have BA := Lib.hid (Blk.kpt BA.out k1); have BB := Lib.hid (Blk.kpt BB.out k1); have BC := Lib.hid (Blk.kpt BC.out k1); clear k1)
    | (refine wp_storeF rfl (.tmp 14) (.tmp 51) rfl w13.heap.size _ _ rfl rfl (Blk.made w13 #[.int .i64 0, .int .i64 0, .int .i64 0, .int .i64 0, .int .i64 0, .int .i64 0, .int .i64 0, .int .i64 0, .int .i64 0, .int .i64 0] 42) rfl rfl (by simp [Value.oneCell']) ?_; intro w14 r9 k9 o9; have K14 := Lib.hid (k9 _ _ (K13.out.alloc _) K13.out.size); have BA : Hid (Blk w14 w2.heap.size #[.int .i64 7, .int .i64 1, .int .i64 2, .int .i64 0, .int .i64 3, .int .i64 739935, .int .i64 100, .int .i64 30, .int .i64 0, .int .i64 0] 42) := Blk.block (Blk.alloc BA.out _) (o9 _ (by have := BA.out.lt; omega)); have BB : Hid (Blk w14 w4.heap.size #[.int .i64 7, .int .i64 1, .int .i64 2, .int .i64 0, .int .i64 3, .int .i64 739935, .int .i64 100, .int .i64 30, .int .i64 50, .int .i64 0] 42) := Blk.block (Blk.alloc BB.out _) (o9 _ (by have := BB.out.lt; omega)); have BC : Hid (Blk w14 w6.heap.size #[.int .i64 7, .int .i64 1, .int .i64 2, .int .i64 0, .int .i64 3, .int .i64 739935, .int .i64 100, .int .i64 30, .int .i64 50, .int .i64 20] 42) := Blk.block (Blk.alloc BC.out _) (o9 _ (by have := BC.out.lt; omega)); have ca : World.cell? w14 ⟨w2.heap.size, 7, none⟩ = some (.int .i64 30) := BA.out.cell 7; have cb : World.cell? w14 ⟨w4.heap.size, 8, none⟩ = some (.int .i64 50) := BB.out.cell 8; have cc : World.cell? w14 ⟨w6.heap.size, 9, none⟩ = some (.int .i64 20) := BC.out.cell 9; clear r9 k9 o9)
    | (go_at_call 79; (with_reducible refine (fb_8 _).mono ?_); rintro e w15 ⟨rfl, k1⟩; have K15 := Lib.hid (ktr K14.out k1); have BA := Lib.hid (Blk.kpt BA.out k1); have BB := Lib.hid (Blk.kpt BB.out k1); have BC := Lib.hid (Blk.kpt BC.out k1); have x0 : World.cell? w15 ⟨w2.heap.size, 0, none⟩ = some (.int .i64 7) := BA.out.cell 0; have y0 : World.cell? w15 ⟨w4.heap.size, 0, none⟩ = some (.int .i64 7) := BB.out.cell 0; have x1 : World.cell? w15 ⟨w2.heap.size, 1, none⟩ = some (.int .i64 1) := BA.out.cell 1; have y1 : World.cell? w15 ⟨w4.heap.size, 1, none⟩ = some (.int .i64 1) := BB.out.cell 1; have x2 : World.cell? w15 ⟨w2.heap.size, 2, none⟩ = some (.int .i64 2) := BA.out.cell 2; have y2 : World.cell? w15 ⟨w4.heap.size, 2, none⟩ = some (.int .i64 2) := BB.out.cell 2; have x3 : World.cell? w15 ⟨w2.heap.size, 3, none⟩ = some (.int .i64 0) := BA.out.cell 3; have y3 : World.cell? w15 ⟨w4.heap.size, 3, none⟩ = some (.int .i64 0) := BB.out.cell 3; have x4 : World.cell? w15 ⟨w2.heap.size, 4, none⟩ = some (.int .i64 3) := BA.out.cell 4; have y4 : World.cell? w15 ⟨w4.heap.size, 4, none⟩ = some (.int .i64 3) := BB.out.cell 4; have x5 : World.cell? w15 ⟨w2.heap.size, 5, none⟩ = some (.int .i64 739935) := BA.out.cell 5; have y5 : World.cell? w15 ⟨w4.heap.size, 5, none⟩ = some (.int .i64 739935) := BB.out.cell 5; have x6 : World.cell? w15 ⟨w2.heap.size, 6, none⟩ = some (.int .i64 100) := BA.out.cell 6; have y6 : World.cell? w15 ⟨w4.heap.size, 6, none⟩ = some (.int .i64 100) := BB.out.cell 6; have x7 : World.cell? w15 ⟨w2.heap.size, 7, none⟩ = some (.int .i64 30) := BA.out.cell 7; have y7 : World.cell? w15 ⟨w4.heap.size, 7, none⟩ = some (.int .i64 30) := BB.out.cell 7; have x8 : World.cell? w15 ⟨w2.heap.size, 8, none⟩ = some (.int .i64 0) := BA.out.cell 8; have y8 : World.cell? w15 ⟨w4.heap.size, 8, none⟩ = some (.int .i64 50) := BB.out.cell 8; have x9 : World.cell? w15 ⟨w2.heap.size, 9, none⟩ = some (.int .i64 0) := BA.out.cell 9; have y9 : World.cell? w15 ⟨w4.heap.size, 9, none⟩ = some (.int .i64 0) := BB.out.cell 9; clear k1)
    | (go_at_call 56; (with_reducible refine (fb_9 w15 _ rfl).mono ?_); rintro e w16 ⟨rfl, k1⟩; have K16 := Lib.hid (ktr (K15.out.alloc _) k1); clear k1))
  go_ret
  exact ⟨rfl, K16.out⟩

end Go.Proofs.YthaahebggboliaaGreat

-- LawCG
namespace Go.Proofs.YthaahebggboliaaGreat
open Go.RowKit Go.Sort Go.Lib
set_option linter.unusedVariables false

set_option maxRecDepth 100000 in
set_option maxHeartbeats 8000000 in
theorem cgi_no (T iD p q : Int) (a ab : Option Addr) (n c nb cb : Nat) (w : World) (E : Int) (hE : (E != 0) = true)
    (A1 : ∀ w', Kpt w w' → Calls Tryz.prog 20 #[.agg #[.int .i64 T, .slice a n c, .slice ab nb cb], .int .i64 iD, .int .i64 p] w' (WdRes w' E 0 [] [])) : Calls Tryz.prog 8 #[.agg #[.int .i64 T, .slice a n c, .slice ab nb cb], .int .i64 iD, .int .i64 p, .int .i64 q] w fun e w' => e = .returned (.bool true) ∧ Kpt w w' := by
  have K3 : Hid (Kpt w (w.alloc (.cells #[.int .i64 T, .slice a n c, .slice ab nb cb] 31))) := (Kpt.refl w).alloc _
  have B3 : Hid (Blk (w.alloc (.cells #[.int .i64 T, .slice a n c, .slice ab nb cb] 31)) w.heap.size #[.int .i64 T, .slice a n c, .slice ab nb cb] 31) := Blk.made w _ _
  go_enter Tryz.func8, Tryz.ntmps8
  go_wp2_with (first
    | (go_at_call 20; (with_reducible refine (A1 _ K3.out).mono ?_); rintro e w1 ⟨fv1, bv1, rfl, of1, ob1, k1⟩; have K1 : Hid (Kpt w w1) := ktr K3.out k1; have KW1 : Hid (Kpt (w.alloc (.cells #[.int .i64 T, .slice a n c, .slice ab nb cb] 31)) w1) := k1; have OF1 := Lib.hid of1; have OB1 := Lib.hid ob1; obtain ⟨a1, c1, rfl⟩ := formN 0 of1 rfl; obtain ⟨b1, d1, rfl⟩ := formQ 0 ob1 rfl; have Z1 : Hid (Blk (w1.alloc (.cells #[.int .i64 0, .slice none 0 0, .slice none 0 0] 31)) w1.heap.size #[.int .i64 0, .slice none 0 0, .slice none 0 0] 31) := Blk.made _ _ _; have KZ1 : Hid (Kpt w (w1.alloc (.cells #[.int .i64 0, .slice none 0 0, .slice none 0 0] 31))) := K1.out.alloc _; clear of1 ob1 k1 A1)
    | (refine wp_storeW rfl (.tmp 9) (.tmp 30) rfl w1.heap.size _ _ rfl rfl Z1.out rfl rfl (by simp [Value.oneCell']) ?_; intro w2 r9 k9 o9; have R2 := Lib.hid r9; have K2 : Hid (Kpt w w2) := k9 _ _ KZ1.out (Below.size K1.out); have KK2 : Hid (Kpt w1 w2) := k9 _ _ ((Kpt.refl w1).alloc _) (Nat.le_refl _); clear r9 k9 o9)
    | (go_at_call 13; (with_reducible refine (cycleBegun_run _).mono ?_); rintro e w2b ⟨rfl, kk⟩; have KKw2b : Hid (Kpt w2 w2b) := kk; clear kk)
    | (go_at_call 27; (with_reducible refine (bookBegun _).mono ?_); rintro e w2c ⟨rfl, kk⟩; have KKw2c : Hid (Kpt w2 w2c) := ktr KKw2b.out kk; clear kk)
    | (go_at_call 32; (with_reducible refine (failBegun _).mono ?_); rintro e w3 ⟨rfl, kk⟩; have KKw3 : Hid (Kpt w2 w3) := ktr KKw2c.out kk; have K3b : Hid (Kpt w w3) := ktr K2.out KKw3.out; have KK13 : Hid (Kpt w1 w3) := ktr KK2.out KKw3.out; have y0 : World.cell? w3 ⟨w1.heap.size, 0, none⟩ = some (.int .i64 0) := (Blk.kpt R2.out KKw3.out).cell 0; have y1 : World.cell? w3 ⟨w1.heap.size, 1, none⟩ = some (.slice a1 0 c1) := (Blk.kpt R2.out KKw3.out).cell 1; have y2 : World.cell? w3 ⟨w1.heap.size, 2, none⟩ = some (.slice b1 0 d1) := (Blk.kpt R2.out KKw3.out).cell 2; have SZ := Lib.hid (sameW_any 0 (.slice a1 0 c1) (.slice none 0 0) (.slice b1 0 d1) (.slice none 0 0) [] [] w3 (readsF_nil _ _ _) (readsF_nil _ _ _) (OwnsP.reads (ps := []) (row_kpt OB1.out KK13.out) inp_nil) (readsP_nil _ none 0 (fun _ => rfl))); clear kk)
    | (go_at_call 18; (with_reducible refine SZ.out.mono ?_); rintro z w9 ⟨rfl, kk⟩; have K9 : Hid (Kpt w w9) := ktr K3b.out kk; clear kk)
    | fail)
  go_ret
  exact ⟨rfl, K9.out⟩

set_option maxRecDepth 100000 in
set_option maxHeartbeats 8000000 in
theorem cgi_no2 (T iD p q : Int) (a ab : Option Addr) (n c nb cb : Nat) (w : World) (fs : List (List Int)) (ix : Nat) (l l1 : List Int) (F1 : List (List Int)) (B1 : List (Int × Int × Int)) (o o1 SB SR : Int) (hF : ReadsF w (.slice a n c) fs) (hix : ix < fs.length) (hl : fs.getD ix [] = l) (hl1 : F1.getD ix [] = l1) (hl2 : F1.length = fs.length)
    (wr1 : IntKind.i64.wrap (o - p) = o1) (wr2 : IntKind.i64.wrap (SB + p) = SR) (FB : Hid (∀ l ∈ F1, FlB l)) (IB : Hid (InP B1))
    (FI : ∀ w', Kpt w w' → Calls Tryz.prog 36 #[.slice a n c, .int .i64 iD] w' fun e w'' => e = .returned (.tuple #[.int .i64 (ix : Int), .int .i64 0]) ∧ Kpt w' w'')
    (P1 : ∀ w', Calls Tryz.prog 34 #[.agg #[.int .i64 (l.getD 0 0), .int .i64 (l.getD 1 0), .int .i64 (l.getD 2 0), .int .i64 (l.getD 3 0), .int .i64 (l.getD 4 0), .int .i64 (l.getD 5 0), .int .i64 (l.getD 6 0), .int .i64 (l.getD 7 0), .int .i64 (l.getD 8 0), .int .i64 (l.getD 9 0)]] w' fun e w'' => e = .returned (.tuple #[.int .i64 o, .int .i64 0]) ∧ Kpt w' w'')
    (P2 : ∀ w', Calls Tryz.prog 34 #[.agg #[.int .i64 (l1.getD 0 0), .int .i64 (l1.getD 1 0), .int .i64 (l1.getD 2 0), .int .i64 (l1.getD 3 0), .int .i64 (l1.getD 4 0), .int .i64 (l1.getD 5 0), .int .i64 (l1.getD 6 0), .int .i64 (l1.getD 7 0), .int .i64 (l1.getD 8 0), .int .i64 (l1.getD 9 0)]] w' fun e w'' => e = .returned (.tuple #[.int .i64 o1, .int .i64 0]) ∧ Kpt w' w'')
    (L1 : ∀ w', Kpt w w' → Calls Tryz.prog 29 #[.slice ab nb cb, .int .i64 (l.getD 2 0), .int .i64 (l.getD 4 0)] w' fun e w'' => e = .returned (.tuple #[.int .i64 SB, .int .i64 0]) ∧ Kpt w' w'')
    (L2 : ∀ w' b1, ReadsP w' b1 B1 → Calls Tryz.prog 29 #[b1, .int .i64 (l.getD 2 0), .int .i64 (l.getD 4 0)] w' fun e w'' => e = .returned (.tuple #[.int .i64 SR, .int .i64 0]) ∧ Kpt w' w'')
    (A1 : ∀ w', Kpt w w' → Calls Tryz.prog 20 #[.agg #[.int .i64 T, .slice a n c, .slice ab nb cb], .int .i64 iD, .int .i64 p] w' (WdRes w' 0 T F1 B1))
    (E : Int) (hE : (E != 0) = true) (A2 : ∀ w' v1 b1, ReadsF w' v1 F1 → NilC v1 → ReadsP w' b1 B1 → Calls Tryz.prog 20 #[.agg #[.int .i64 T, v1, b1], .int .i64 iD, .int .i64 q] w' (WdRes w' E 0 [] [])) : Calls Tryz.prog 8 #[.agg #[.int .i64 T, .slice a n c, .slice ab nb cb], .int .i64 iD, .int .i64 p, .int .i64 q] w fun e w' => e = .returned (.bool true) ∧ Kpt w w' := by
  have en : n = fs.length := by obtain ⟨x, cap, e, -⟩ := hF; injection e
  rw [← en] at hl2 hix
  have HL2 := Lib.hid hl2
  obtain ⟨g, off, rfl, hfl⟩ : ∃ g off, a = some ⟨g, off, none⟩ ∧ FlAt w g (off + ix * 10) l := by
    obtain ⟨x, cap, e, -, -, hc⟩ := hF
    injection e with e1 e2 e3
    subst e1
    rw [← hl]
    exact hc ix (by rw [← en]; exact hix)
  have HIX := Lib.hid hix
  have mixed : Tryz.prog.follows .mixedOrders = true := by kernel_rfl
  have i0 : (0 : Int) ≤ (ix : Int) := by omega
  have i1 : (ix : Int) < (n : Int) := by omega
  have c0_ : w.cell? ⟨g, off + ix * 10, none⟩ = some (.int .i64 (l.getD 0 0)) := hfl 0 (by decide)
  have c1_ : w.cell? ⟨g, off + ix * 10 + 1, none⟩ = some (.int .i64 (l.getD 1 0)) := hfl 1 (by decide)
  have c2_ : w.cell? ⟨g, off + ix * 10 + 2, none⟩ = some (.int .i64 (l.getD 2 0)) := hfl 2 (by decide)
  have c3_ : w.cell? ⟨g, off + ix * 10 + 3, none⟩ = some (.int .i64 (l.getD 3 0)) := hfl 3 (by decide)
  have c4_ : w.cell? ⟨g, off + ix * 10 + 4, none⟩ = some (.int .i64 (l.getD 4 0)) := hfl 4 (by decide)
  have c5_ : w.cell? ⟨g, off + ix * 10 + 5, none⟩ = some (.int .i64 (l.getD 5 0)) := hfl 5 (by decide)
  have c6_ : w.cell? ⟨g, off + ix * 10 + 6, none⟩ = some (.int .i64 (l.getD 6 0)) := hfl 6 (by decide)
  have c7_ : w.cell? ⟨g, off + ix * 10 + 7, none⟩ = some (.int .i64 (l.getD 7 0)) := hfl 7 (by decide)
  have c8_ : w.cell? ⟨g, off + ix * 10 + 8, none⟩ = some (.int .i64 (l.getD 8 0)) := hfl 8 (by decide)
  have c9_ : w.cell? ⟨g, off + ix * 10 + 9, none⟩ = some (.int .i64 (l.getD 9 0)) := hfl 9 (by decide)
  have HL1 := Lib.hid hl1
  clear hF hix hl hl1 hl2 en hfl
  generalize l.getD 0 0 = z0 at *
  generalize l.getD 1 0 = z1 at *
  generalize l.getD 2 0 = z2 at *
  generalize l.getD 3 0 = z3 at *
  generalize l.getD 4 0 = z4 at *
  generalize l.getD 5 0 = z5 at *
  generalize l.getD 6 0 = z6 at *
  generalize l.getD 7 0 = z7 at *
  generalize l.getD 8 0 = z8 at *
  generalize l.getD 9 0 = z9 at *
  have K3 : Hid (Kpt w (w.alloc (.cells #[.int .i64 T, .slice (some ⟨g, off, none⟩) n c, .slice ab nb cb] 31))) := (Kpt.refl w).alloc _
  have B3 : Hid (Blk (w.alloc (.cells #[.int .i64 T, .slice (some ⟨g, off, none⟩) n c, .slice ab nb cb] 31)) w.heap.size #[.int .i64 T, .slice (some ⟨g, off, none⟩) n c, .slice ab nb cb] 31) := Blk.made w _ _
  go_enter Tryz.func8, Tryz.ntmps8
  go_upto_region 9 with (first
    | (go_at_call 20; (with_reducible refine (A1 _ K3.out).mono ?_); rintro e w1 ⟨fv1, bv1, rfl, of1, ob1, k1⟩; have K1 : Hid (Kpt w w1) := ktr K3.out k1; have KW1 : Hid (Kpt (w.alloc (.cells #[.int .i64 T, .slice (some ⟨g, off, none⟩) n c, .slice ab nb cb] 31)) w1) := k1; have OF1 := Lib.hid of1; have OB1 := Lib.hid ob1; obtain ⟨a1, c1, rfl⟩ := formN n of1 HL2.out; obtain ⟨b1, d1, rfl⟩ := OwnsP.form ob1; have Z1 : Hid (Blk (w1.alloc (.cells #[.int .i64 0, .slice none 0 0, .slice none 0 0] 31)) w1.heap.size #[.int .i64 0, .slice none 0 0, .slice none 0 0] 31) := Blk.made _ _ _; have KZ1 : Hid (Kpt w (w1.alloc (.cells #[.int .i64 0, .slice none 0 0, .slice none 0 0] 31))) := K1.out.alloc _; clear of1 ob1 k1 A1)
    | (refine wp_storeW rfl (.tmp 9) (.tmp 30) rfl w1.heap.size _ _ rfl rfl Z1.out rfl rfl (by simp [Value.oneCell']) ?_; intro w2 r9 k9 o9; have R2 := Lib.hid r9; have K2 : Hid (Kpt w w2) := k9 _ _ KZ1.out (Below.size K1.out); have KK2 : Hid (Kpt w1 w2) := k9 _ _ ((Kpt.refl w1).alloc _) (Nat.le_refl _); clear r9 k9 o9)
    | (go_at_call 13; (with_reducible refine (cycleBegun_run _).mono ?_); rintro e w2b ⟨rfl, kk⟩; have KKw2b : Hid (Kpt w2 w2b) := kk; clear kk)
    | (go_at_call 27; (with_reducible refine (bookBegun _).mono ?_); rintro e w2c ⟨rfl, kk⟩; have KKw2c : Hid (Kpt w2 w2c) := ktr KKw2b.out kk; clear kk)
    | (go_at_call 32; (with_reducible refine (failBegun _).mono ?_); rintro e w3 ⟨rfl, kk⟩; have KKw3 : Hid (Kpt w2 w3) := ktr KKw2c.out kk; have K3b : Hid (Kpt w w3) := ktr K2.out KKw3.out; have KK13 : Hid (Kpt w1 w3) := ktr KK2.out KKw3.out; have KW3 : Hid (Kpt (w.alloc (.cells #[.int .i64 T, .slice (some ⟨g, off, none⟩) n c, .slice ab nb cb] 31)) w3) := ktr KW1.out KK13.out; have v1 : World.cell? w3 ⟨w.heap.size, 1, none⟩ = some (.slice (some ⟨g, off, none⟩) n c) := (B3.out.kpt KW3.out).cell 1; clear kk)
    | (go_at_call 36; (with_reducible refine (FI _ K3b.out).mono ?_); rintro e w4 ⟨rfl, kk⟩; have KK34 : Hid (Kpt w3 w4) := kk; have K4 : Hid (Kpt w w4) := ktr K3b.out kk; have v1 : World.cell? w4 ⟨w.heap.size, 1, none⟩ = some (.slice (some ⟨g, off, none⟩) n c) := (B3.out.kpt (ktr KW3.out kk)).cell 1; have x1 : World.cell? w4 ⟨w1.heap.size, 1, none⟩ = some (.slice a1 n c1) := ((R2.out.kpt KKw3.out).kpt kk).cell 1; have d0 := K4.out.cell c0_; have d1 := K4.out.cell c1_; have d2 := K4.out.cell c2_; have d3 := K4.out.cell c3_; have d4 := K4.out.cell c4_; have d5 := K4.out.cell c5_; have d6 := K4.out.cell c6_; have d7 := K4.out.cell c7_; have d8 := K4.out.cell c8_; have d9 := K4.out.cell c9_; clear kk FI)
    | fail)
  obtain ⟨g1, rfl, hx⟩ : ∃ g1, a1 = some ⟨g1, 0, none⟩ ∧ ∀ j, j < 10 → w1.cell? ⟨g1, ix * 10 + j, none⟩ = some (.int .i64 (l1.getD j 0)) := by
    obtain ⟨a', cap', e, -, hc⟩ := OwnsN.cells OF1.out
    injection e with e1 e2 e3
    obtain ⟨g, e', h'⟩ := hc ix (by rw [HL2.out]; exact HIX.out)
    rw [HL1.out] at h'
    exact ⟨g, e1.trans e', h'⟩
  have y0_ : w1.cell? ⟨g1, ix * 10, none⟩ = some (.int .i64 (l1.getD 0 0)) := hx 0 (by decide)
  have y1_ : w1.cell? ⟨g1, ix * 10 + 1, none⟩ = some (.int .i64 (l1.getD 1 0)) := hx 1 (by decide)
  have y2_ : w1.cell? ⟨g1, ix * 10 + 2, none⟩ = some (.int .i64 (l1.getD 2 0)) := hx 2 (by decide)
  have y3_ : w1.cell? ⟨g1, ix * 10 + 3, none⟩ = some (.int .i64 (l1.getD 3 0)) := hx 3 (by decide)
  have y4_ : w1.cell? ⟨g1, ix * 10 + 4, none⟩ = some (.int .i64 (l1.getD 4 0)) := hx 4 (by decide)
  have y5_ : w1.cell? ⟨g1, ix * 10 + 5, none⟩ = some (.int .i64 (l1.getD 5 0)) := hx 5 (by decide)
  have y6_ : w1.cell? ⟨g1, ix * 10 + 6, none⟩ = some (.int .i64 (l1.getD 6 0)) := hx 6 (by decide)
  have y7_ : w1.cell? ⟨g1, ix * 10 + 7, none⟩ = some (.int .i64 (l1.getD 7 0)) := hx 7 (by decide)
  have y8_ : w1.cell? ⟨g1, ix * 10 + 8, none⟩ = some (.int .i64 (l1.getD 8 0)) := hx 8 (by decide)
  have y9_ : w1.cell? ⟨g1, ix * 10 + 9, none⟩ = some (.int .i64 (l1.getD 9 0)) := hx 9 (by decide)
  clear hx
  generalize l1.getD 0 0 = u0 at *
  generalize l1.getD 1 0 = u1 at *
  generalize l1.getD 2 0 = u2 at *
  generalize l1.getD 3 0 = u3 at *
  generalize l1.getD 4 0 = u4 at *
  generalize l1.getD 5 0 = u5 at *
  generalize l1.getD 6 0 = u6 at *
  generalize l1.getD 7 0 = u7 at *
  generalize l1.getD 8 0 = u8 at *
  generalize l1.getD 9 0 = u9 at *
  go_upto_region 11 with (first
    | (go_at_call 34; (with_reducible refine (P1 _).mono ?_); rintro e w5 ⟨rfl, kk⟩; have KK35 : Hid (Kpt w3 w5) := ktr KK34.out kk; have KK15 : Hid (Kpt w1 w5) := ktr KK13.out KK35.out; have x1 : World.cell? w5 ⟨w1.heap.size, 1, none⟩ = some (.slice (some ⟨g1, 0, none⟩) n c1) := ((R2.out.kpt KKw3.out).kpt KK35.out).cell 1; have e0 := KK15.out.cell y0_; have e1 := KK15.out.cell y1_; have e2 := KK15.out.cell y2_; have e3 := KK15.out.cell y3_; have e4 := KK15.out.cell y4_; have e5 := KK15.out.cell y5_; have e6 := KK15.out.cell y6_; have e7 := KK15.out.cell y7_; have e8 := KK15.out.cell y8_; have e9 := KK15.out.cell y9_; clear kk P1 d0 d1 d2 d3 d4 d5 d6 d7 d8 d9 v1)
    | (go_at_call 34; (with_reducible refine (P2 _).mono ?_); rintro e w6 ⟨rfl, kk⟩; have KK36 : Hid (Kpt w3 w6) := ktr KK35.out kk; clear kk P2 e0 e1 e2 e3 e4 e5 e6 e7 e8 e9 x1)
    | fail)
  have KWq : Hid (Kpt (w.alloc (.cells #[.int .i64 T, .slice (some ⟨g, off, none⟩) n c, .slice ab nb cb] 31)) w6) := ktr KW3.out KK36.out
  have K0q : Hid (Kpt w w6) := ktr K3b.out KK36.out
  have q1 := cell_k (q := w6) (a := ⟨w.heap.size, 1, none⟩) (v := .slice (some ⟨g, off, none⟩) n c) ((B3.out.kpt KWq.out).cell 1)
  have q2 := cell_k (q := w6) (a := ⟨g, off + ix * 10 + 2, none⟩) (v := .int .i64 z2) (K0q.out.cell c2_)
  have q4 := cell_k (q := w6) (a := ⟨g, off + ix * 10 + 4, none⟩) (v := .int .i64 z4) (K0q.out.cell c4_)
  have q0 := cell_k (q := w6) (a := ⟨w.heap.size, 2, none⟩) (v := .slice ab nb cb) ((B3.out.kpt KWq.out).cell 2)
  have LQ := Lib.hid (fun p : KptTo w6 => L1 p.w (ktr K0q.out p.h))
  clear L1
  refine quiet_k (q := w6) mixed (by kernel_rfl) ?_
  repeat (go_big_quiet_step (first | (go_at_call 29; with_reducible refine calls_k (LQ.out _)) | fail))
  refine wpQuiet_nil ?_
  intro w7 hw1
  obtain ⟨⟨wz, kz⟩, hw2⟩ := hw1
  have hw3 : w7 = wz := hw2
  clear hw2
  subst hw3
  have KQw7 : Hid (Kpt w3 w7) := ktr KK36.out kz
  clear kz
  clear LQ q0 q1 q2 q4 KWq K0q
  go_upto_region 12 with fail
  have KWq : Hid (Kpt (w.alloc (.cells #[.int .i64 T, .slice (some ⟨g, off, none⟩) n c, .slice ab nb cb] 31)) w7) := ktr KW3.out KQw7.out
  have K0q : Hid (Kpt w w7) := ktr K3b.out KQw7.out
  have q1 := cell_k (q := w7) (a := ⟨w.heap.size, 1, none⟩) (v := .slice (some ⟨g, off, none⟩) n c) ((B3.out.kpt KWq.out).cell 1)
  have q2 := cell_k (q := w7) (a := ⟨g, off + ix * 10 + 2, none⟩) (v := .int .i64 z2) (K0q.out.cell c2_)
  have q4 := cell_k (q := w7) (a := ⟨g, off + ix * 10 + 4, none⟩) (v := .int .i64 z4) (K0q.out.cell c4_)
  have q0 := cell_k (q := w7) (a := ⟨w1.heap.size, 2, none⟩) (v := .slice b1 B1.length d1) (((R2.out.kpt KKw3.out).kpt KQw7.out).cell 2)
  have RB7 : ReadsP w7 (.slice b1 B1.length d1) B1 := OwnsP.reads (row_kpt OB1.out (ktr KK13.out KQw7.out)) IB.out
  have LQ := Lib.hid (fun p : KptTo w7 => L2 p.w _ (RB7.kpt p.h))
  clear L2
  refine quiet_k (q := w7) mixed (by kernel_rfl) ?_
  repeat (go_big_quiet_step (first | (go_at_call 29; with_reducible refine calls_k (LQ.out _)) | fail))
  refine wpQuiet_nil ?_
  intro w8 hw1
  obtain ⟨⟨wz, kz⟩, hw2⟩ := hw1
  have hw3 : w8 = wz := hw2
  clear hw2
  subst hw3
  have KQw8 : Hid (Kpt w3 w8) := ktr KQw7.out kz
  clear kz
  clear LQ q0 q1 q2 q4 KWq K0q RB7
  have KK18 : Hid (Kpt w1 w8) := ktr KK13.out KQw8.out
  have K8 : Hid (Kpt w w8) := ktr K3b.out KQw8.out
  have BX : Hid (Blk w8 w1.heap.size #[.int .i64 T, .slice (some ⟨g1, 0, none⟩) n c1, .slice b1 B1.length d1] 31) := (R2.out.kpt KKw3.out).kpt KQw8.out
  have BW : Hid (Blk w8 w.heap.size #[.int .i64 T, .slice (some ⟨g, off, none⟩) n c, .slice ab nb cb] 31) := B3.out.kpt (ktr KW3.out KQw8.out)
  have x0 : World.cell? w8 ⟨w1.heap.size, 0, none⟩ = some (.int .i64 T) := BX.out.cell 0
  have x1 : World.cell? w8 ⟨w1.heap.size, 1, none⟩ = some (.slice (some ⟨g1, 0, none⟩) n c1) := BX.out.cell 1
  have x2 : World.cell? w8 ⟨w1.heap.size, 2, none⟩ = some (.slice b1 B1.length d1) := BX.out.cell 2
  have RF8 : Hid (ReadsF w8 (.slice (some ⟨g1, 0, none⟩) n c1) F1) := OwnsN.readsF (OwnsN.kpt OF1.out KK18.out) FB.out
  have RN8 : Hid (NilC (.slice (some ⟨g1, 0, none⟩) n c1)) := row_nil OF1.out
  have RP8 : Hid (ReadsP w8 (.slice b1 B1.length d1) B1) := OwnsP.reads (row_kpt OB1.out KK18.out) IB.out
  clear c0_ y0_
  clear c1_ y1_
  clear c2_ y2_
  clear c3_ y3_
  clear c4_ y4_
  clear c5_ y5_
  clear c6_ y6_
  clear c7_ y7_
  clear c8_ y8_
  clear c9_ y9_
  go_wp2_with (first
    | (go_at_call 20; (with_reducible refine (A2 _ _ _ RF8.out RN8.out RP8.out).mono ?_); rintro e w9 ⟨fv1, bv1, rfl, of1, ob1, k1⟩; have K9 : Hid (Kpt w w9) := ktr K8.out k1; have KK89 : Hid (Kpt w8 w9) := k1; have OF9 := Lib.hid of1; have OB9 := Lib.hid ob1; obtain ⟨a9, c9, rfl⟩ := formN 0 of1 rfl; obtain ⟨b9, d9, rfl⟩ := formQ 0 ob1 rfl; have Z9 : Hid (Blk (w9.alloc (.cells #[.int .i64 0, .slice none 0 0, .slice none 0 0] 31)) w9.heap.size #[.int .i64 0, .slice none 0 0, .slice none 0 0] 31) := Blk.made _ _ _; have KZ9 : Hid (Kpt w (w9.alloc (.cells #[.int .i64 0, .slice none 0 0, .slice none 0 0] 31))) := K9.out.alloc _; clear of1 ob1 k1 A2 x0 x1 x2)
    | (refine wp_storeW rfl (.tmp 21) (.tmp 152) rfl w9.heap.size _ _ rfl rfl Z9.out rfl rfl (by simp [Value.oneCell']) ?_; intro w10 r9 k9 o9; have R10 := Lib.hid r9; have K10 : Hid (Kpt w w10) := k9 _ _ KZ9.out (Below.size K9.out); have KK10 : Hid (Kpt w9 w10) := k9 _ _ ((Kpt.refl w9).alloc _) (Nat.le_refl _); clear r9 k9 o9)
    | fail)
  go_ret
  exact ⟨rfl, K10.out⟩

set_option maxRecDepth 100000 in
set_option maxHeartbeats 8000000 in
theorem cgi_ok (T iD p q : Int) (a ab : Option Addr) (n c nb cb : Nat) (w : World) (fs : List (List Int)) (ix : Nat) (l l1 : List Int) (F1 : List (List Int)) (B1 : List (Int × Int × Int)) (o o1 SB SR : Int) (hF : ReadsF w (.slice a n c) fs) (hix : ix < fs.length) (hl : fs.getD ix [] = l) (hl1 : F1.getD ix [] = l1) (hl2 : F1.length = fs.length)
    (wr1 : IntKind.i64.wrap (o - p) = o1) (wr2 : IntKind.i64.wrap (SB + p) = SR) (FB : Hid (∀ l ∈ F1, FlB l)) (IB : Hid (InP B1))
    (FI : ∀ w', Kpt w w' → Calls Tryz.prog 36 #[.slice a n c, .int .i64 iD] w' fun e w'' => e = .returned (.tuple #[.int .i64 (ix : Int), .int .i64 0]) ∧ Kpt w' w'')
    (P1 : ∀ w', Calls Tryz.prog 34 #[.agg #[.int .i64 (l.getD 0 0), .int .i64 (l.getD 1 0), .int .i64 (l.getD 2 0), .int .i64 (l.getD 3 0), .int .i64 (l.getD 4 0), .int .i64 (l.getD 5 0), .int .i64 (l.getD 6 0), .int .i64 (l.getD 7 0), .int .i64 (l.getD 8 0), .int .i64 (l.getD 9 0)]] w' fun e w'' => e = .returned (.tuple #[.int .i64 o, .int .i64 0]) ∧ Kpt w' w'')
    (P2 : ∀ w', Calls Tryz.prog 34 #[.agg #[.int .i64 (l1.getD 0 0), .int .i64 (l1.getD 1 0), .int .i64 (l1.getD 2 0), .int .i64 (l1.getD 3 0), .int .i64 (l1.getD 4 0), .int .i64 (l1.getD 5 0), .int .i64 (l1.getD 6 0), .int .i64 (l1.getD 7 0), .int .i64 (l1.getD 8 0), .int .i64 (l1.getD 9 0)]] w' fun e w'' => e = .returned (.tuple #[.int .i64 o1, .int .i64 0]) ∧ Kpt w' w'')
    (L1 : ∀ w', Kpt w w' → Calls Tryz.prog 29 #[.slice ab nb cb, .int .i64 (l.getD 2 0), .int .i64 (l.getD 4 0)] w' fun e w'' => e = .returned (.tuple #[.int .i64 SB, .int .i64 0]) ∧ Kpt w' w'')
    (L2 : ∀ w' b1, ReadsP w' b1 B1 → Calls Tryz.prog 29 #[b1, .int .i64 (l.getD 2 0), .int .i64 (l.getD 4 0)] w' fun e w'' => e = .returned (.tuple #[.int .i64 SR, .int .i64 0]) ∧ Kpt w' w'')
    (A1 : ∀ w', Kpt w w' → Calls Tryz.prog 20 #[.agg #[.int .i64 T, .slice a n c, .slice ab nb cb], .int .i64 iD, .int .i64 p] w' (WdRes w' 0 T F1 B1))
    (F2 : List (List Int)) (B2 : List (Int × Int × Int)) (wr3 : IntKind.i64.wrap (p + q) = p + q) (FB2 : Hid (∀ l ∈ F2, FlB l)) (IB2 : Hid (InP B2)) (A2 : ∀ w' v1 b1, ReadsF w' v1 F1 → NilC v1 → ReadsP w' b1 B1 → Calls Tryz.prog 20 #[.agg #[.int .i64 T, v1, b1], .int .i64 iD, .int .i64 q] w' (WdRes w' 0 T F2 B2))
    (A3 : ∀ w', Kpt w w' → Calls Tryz.prog 20 #[.agg #[.int .i64 T, .slice a n c, .slice ab nb cb], .int .i64 iD, .int .i64 (p + q)] w' (WdRes w' 0 T F2 B2)) : Calls Tryz.prog 8 #[.agg #[.int .i64 T, .slice a n c, .slice ab nb cb], .int .i64 iD, .int .i64 p, .int .i64 q] w fun e w' => e = .returned (.bool true) ∧ Kpt w w' := by
  have en : n = fs.length := by obtain ⟨x, cap, e, -⟩ := hF; injection e
  rw [← en] at hl2 hix
  have HL2 := Lib.hid hl2
  obtain ⟨g, off, rfl, hfl⟩ : ∃ g off, a = some ⟨g, off, none⟩ ∧ FlAt w g (off + ix * 10) l := by
    obtain ⟨x, cap, e, -, -, hc⟩ := hF
    injection e with e1 e2 e3
    subst e1
    rw [← hl]
    exact hc ix (by rw [← en]; exact hix)
  have HIX := Lib.hid hix
  have mixed : Tryz.prog.follows .mixedOrders = true := by kernel_rfl
  have i0 : (0 : Int) ≤ (ix : Int) := by omega
  have i1 : (ix : Int) < (n : Int) := by omega
  have c0_ : w.cell? ⟨g, off + ix * 10, none⟩ = some (.int .i64 (l.getD 0 0)) := hfl 0 (by decide)
  have c1_ : w.cell? ⟨g, off + ix * 10 + 1, none⟩ = some (.int .i64 (l.getD 1 0)) := hfl 1 (by decide)
  have c2_ : w.cell? ⟨g, off + ix * 10 + 2, none⟩ = some (.int .i64 (l.getD 2 0)) := hfl 2 (by decide)
  have c3_ : w.cell? ⟨g, off + ix * 10 + 3, none⟩ = some (.int .i64 (l.getD 3 0)) := hfl 3 (by decide)
  have c4_ : w.cell? ⟨g, off + ix * 10 + 4, none⟩ = some (.int .i64 (l.getD 4 0)) := hfl 4 (by decide)
  have c5_ : w.cell? ⟨g, off + ix * 10 + 5, none⟩ = some (.int .i64 (l.getD 5 0)) := hfl 5 (by decide)
  have c6_ : w.cell? ⟨g, off + ix * 10 + 6, none⟩ = some (.int .i64 (l.getD 6 0)) := hfl 6 (by decide)
  have c7_ : w.cell? ⟨g, off + ix * 10 + 7, none⟩ = some (.int .i64 (l.getD 7 0)) := hfl 7 (by decide)
  have c8_ : w.cell? ⟨g, off + ix * 10 + 8, none⟩ = some (.int .i64 (l.getD 8 0)) := hfl 8 (by decide)
  have c9_ : w.cell? ⟨g, off + ix * 10 + 9, none⟩ = some (.int .i64 (l.getD 9 0)) := hfl 9 (by decide)
  have HL1 := Lib.hid hl1
  clear hF hix hl hl1 hl2 en hfl
  generalize l.getD 0 0 = z0 at *
  generalize l.getD 1 0 = z1 at *
  generalize l.getD 2 0 = z2 at *
  generalize l.getD 3 0 = z3 at *
  generalize l.getD 4 0 = z4 at *
  generalize l.getD 5 0 = z5 at *
  generalize l.getD 6 0 = z6 at *
  generalize l.getD 7 0 = z7 at *
  generalize l.getD 8 0 = z8 at *
  generalize l.getD 9 0 = z9 at *
  have K3 : Hid (Kpt w (w.alloc (.cells #[.int .i64 T, .slice (some ⟨g, off, none⟩) n c, .slice ab nb cb] 31))) := (Kpt.refl w).alloc _
  have B3 : Hid (Blk (w.alloc (.cells #[.int .i64 T, .slice (some ⟨g, off, none⟩) n c, .slice ab nb cb] 31)) w.heap.size #[.int .i64 T, .slice (some ⟨g, off, none⟩) n c, .slice ab nb cb] 31) := Blk.made w _ _
  go_enter Tryz.func8, Tryz.ntmps8
  go_upto_region 9 with (first
    | (go_at_call 20; (with_reducible refine (A1 _ K3.out).mono ?_); rintro e w1 ⟨fv1, bv1, rfl, of1, ob1, k1⟩; have K1 : Hid (Kpt w w1) := ktr K3.out k1; have KW1 : Hid (Kpt (w.alloc (.cells #[.int .i64 T, .slice (some ⟨g, off, none⟩) n c, .slice ab nb cb] 31)) w1) := k1; have OF1 := Lib.hid of1; have OB1 := Lib.hid ob1; obtain ⟨a1, c1, rfl⟩ := formN n of1 HL2.out; obtain ⟨b1, d1, rfl⟩ := OwnsP.form ob1; have Z1 : Hid (Blk (w1.alloc (.cells #[.int .i64 0, .slice none 0 0, .slice none 0 0] 31)) w1.heap.size #[.int .i64 0, .slice none 0 0, .slice none 0 0] 31) := Blk.made _ _ _; have KZ1 : Hid (Kpt w (w1.alloc (.cells #[.int .i64 0, .slice none 0 0, .slice none 0 0] 31))) := K1.out.alloc _; clear of1 ob1 k1 A1)
    | (refine wp_storeW rfl (.tmp 9) (.tmp 30) rfl w1.heap.size _ _ rfl rfl Z1.out rfl rfl (by simp [Value.oneCell']) ?_; intro w2 r9 k9 o9; have R2 := Lib.hid r9; have K2 : Hid (Kpt w w2) := k9 _ _ KZ1.out (Below.size K1.out); have KK2 : Hid (Kpt w1 w2) := k9 _ _ ((Kpt.refl w1).alloc _) (Nat.le_refl _); clear r9 k9 o9)
    | (go_at_call 13; (with_reducible refine (cycleBegun_run _).mono ?_); rintro e w2b ⟨rfl, kk⟩; have KKw2b : Hid (Kpt w2 w2b) := kk; clear kk)
    | (go_at_call 27; (with_reducible refine (bookBegun _).mono ?_); rintro e w2c ⟨rfl, kk⟩; have KKw2c : Hid (Kpt w2 w2c) := ktr KKw2b.out kk; clear kk)
    | (go_at_call 32; (with_reducible refine (failBegun _).mono ?_); rintro e w3 ⟨rfl, kk⟩; have KKw3 : Hid (Kpt w2 w3) := ktr KKw2c.out kk; have K3b : Hid (Kpt w w3) := ktr K2.out KKw3.out; have KK13 : Hid (Kpt w1 w3) := ktr KK2.out KKw3.out; have KW3 : Hid (Kpt (w.alloc (.cells #[.int .i64 T, .slice (some ⟨g, off, none⟩) n c, .slice ab nb cb] 31)) w3) := ktr KW1.out KK13.out; have v1 : World.cell? w3 ⟨w.heap.size, 1, none⟩ = some (.slice (some ⟨g, off, none⟩) n c) := (B3.out.kpt KW3.out).cell 1; clear kk)
    | (go_at_call 36; (with_reducible refine (FI _ K3b.out).mono ?_); rintro e w4 ⟨rfl, kk⟩; have KK34 : Hid (Kpt w3 w4) := kk; have K4 : Hid (Kpt w w4) := ktr K3b.out kk; have v1 : World.cell? w4 ⟨w.heap.size, 1, none⟩ = some (.slice (some ⟨g, off, none⟩) n c) := (B3.out.kpt (ktr KW3.out kk)).cell 1; have x1 : World.cell? w4 ⟨w1.heap.size, 1, none⟩ = some (.slice a1 n c1) := ((R2.out.kpt KKw3.out).kpt kk).cell 1; have d0 := K4.out.cell c0_; have d1 := K4.out.cell c1_; have d2 := K4.out.cell c2_; have d3 := K4.out.cell c3_; have d4 := K4.out.cell c4_; have d5 := K4.out.cell c5_; have d6 := K4.out.cell c6_; have d7 := K4.out.cell c7_; have d8 := K4.out.cell c8_; have d9 := K4.out.cell c9_; clear kk FI)
    | fail)
  obtain ⟨g1, rfl, hx⟩ : ∃ g1, a1 = some ⟨g1, 0, none⟩ ∧ ∀ j, j < 10 → w1.cell? ⟨g1, ix * 10 + j, none⟩ = some (.int .i64 (l1.getD j 0)) := by
    obtain ⟨a', cap', e, -, hc⟩ := OwnsN.cells OF1.out
    injection e with e1 e2 e3
    obtain ⟨g, e', h'⟩ := hc ix (by rw [HL2.out]; exact HIX.out)
    rw [HL1.out] at h'
    exact ⟨g, e1.trans e', h'⟩
  have y0_ : w1.cell? ⟨g1, ix * 10, none⟩ = some (.int .i64 (l1.getD 0 0)) := hx 0 (by decide)
  have y1_ : w1.cell? ⟨g1, ix * 10 + 1, none⟩ = some (.int .i64 (l1.getD 1 0)) := hx 1 (by decide)
  have y2_ : w1.cell? ⟨g1, ix * 10 + 2, none⟩ = some (.int .i64 (l1.getD 2 0)) := hx 2 (by decide)
  have y3_ : w1.cell? ⟨g1, ix * 10 + 3, none⟩ = some (.int .i64 (l1.getD 3 0)) := hx 3 (by decide)
  have y4_ : w1.cell? ⟨g1, ix * 10 + 4, none⟩ = some (.int .i64 (l1.getD 4 0)) := hx 4 (by decide)
  have y5_ : w1.cell? ⟨g1, ix * 10 + 5, none⟩ = some (.int .i64 (l1.getD 5 0)) := hx 5 (by decide)
  have y6_ : w1.cell? ⟨g1, ix * 10 + 6, none⟩ = some (.int .i64 (l1.getD 6 0)) := hx 6 (by decide)
  have y7_ : w1.cell? ⟨g1, ix * 10 + 7, none⟩ = some (.int .i64 (l1.getD 7 0)) := hx 7 (by decide)
  have y8_ : w1.cell? ⟨g1, ix * 10 + 8, none⟩ = some (.int .i64 (l1.getD 8 0)) := hx 8 (by decide)
  have y9_ : w1.cell? ⟨g1, ix * 10 + 9, none⟩ = some (.int .i64 (l1.getD 9 0)) := hx 9 (by decide)
  clear hx
  generalize l1.getD 0 0 = u0 at *
  generalize l1.getD 1 0 = u1 at *
  generalize l1.getD 2 0 = u2 at *
  generalize l1.getD 3 0 = u3 at *
  generalize l1.getD 4 0 = u4 at *
  generalize l1.getD 5 0 = u5 at *
  generalize l1.getD 6 0 = u6 at *
  generalize l1.getD 7 0 = u7 at *
  generalize l1.getD 8 0 = u8 at *
  generalize l1.getD 9 0 = u9 at *
  go_upto_region 11 with (first
    | (go_at_call 34; (with_reducible refine (P1 _).mono ?_); rintro e w5 ⟨rfl, kk⟩; have KK35 : Hid (Kpt w3 w5) := ktr KK34.out kk; have KK15 : Hid (Kpt w1 w5) := ktr KK13.out KK35.out; have x1 : World.cell? w5 ⟨w1.heap.size, 1, none⟩ = some (.slice (some ⟨g1, 0, none⟩) n c1) := ((R2.out.kpt KKw3.out).kpt KK35.out).cell 1; have e0 := KK15.out.cell y0_; have e1 := KK15.out.cell y1_; have e2 := KK15.out.cell y2_; have e3 := KK15.out.cell y3_; have e4 := KK15.out.cell y4_; have e5 := KK15.out.cell y5_; have e6 := KK15.out.cell y6_; have e7 := KK15.out.cell y7_; have e8 := KK15.out.cell y8_; have e9 := KK15.out.cell y9_; clear kk P1 d0 d1 d2 d3 d4 d5 d6 d7 d8 d9 v1)
    | (go_at_call 34; (with_reducible refine (P2 _).mono ?_); rintro e w6 ⟨rfl, kk⟩; have KK36 : Hid (Kpt w3 w6) := ktr KK35.out kk; clear kk P2 e0 e1 e2 e3 e4 e5 e6 e7 e8 e9 x1)
    | fail)
  have KWq : Hid (Kpt (w.alloc (.cells #[.int .i64 T, .slice (some ⟨g, off, none⟩) n c, .slice ab nb cb] 31)) w6) := ktr KW3.out KK36.out
  have K0q : Hid (Kpt w w6) := ktr K3b.out KK36.out
  have q1 := cell_k (q := w6) (a := ⟨w.heap.size, 1, none⟩) (v := .slice (some ⟨g, off, none⟩) n c) ((B3.out.kpt KWq.out).cell 1)
  have q2 := cell_k (q := w6) (a := ⟨g, off + ix * 10 + 2, none⟩) (v := .int .i64 z2) (K0q.out.cell c2_)
  have q4 := cell_k (q := w6) (a := ⟨g, off + ix * 10 + 4, none⟩) (v := .int .i64 z4) (K0q.out.cell c4_)
  have q0 := cell_k (q := w6) (a := ⟨w.heap.size, 2, none⟩) (v := .slice ab nb cb) ((B3.out.kpt KWq.out).cell 2)
  have LQ := Lib.hid (fun p : KptTo w6 => L1 p.w (ktr K0q.out p.h))
  clear L1
  refine quiet_k (q := w6) mixed (by kernel_rfl) ?_
  repeat (go_big_quiet_step (first | (go_at_call 29; with_reducible refine calls_k (LQ.out _)) | fail))
  refine wpQuiet_nil ?_
  intro w7 hw1
  obtain ⟨⟨wz, kz⟩, hw2⟩ := hw1
  have hw3 : w7 = wz := hw2
  clear hw2
  subst hw3
  have KQw7 : Hid (Kpt w3 w7) := ktr KK36.out kz
  clear kz
  clear LQ q0 q1 q2 q4 KWq K0q
  go_upto_region 12 with fail
  have KWq : Hid (Kpt (w.alloc (.cells #[.int .i64 T, .slice (some ⟨g, off, none⟩) n c, .slice ab nb cb] 31)) w7) := ktr KW3.out KQw7.out
  have K0q : Hid (Kpt w w7) := ktr K3b.out KQw7.out
  have q1 := cell_k (q := w7) (a := ⟨w.heap.size, 1, none⟩) (v := .slice (some ⟨g, off, none⟩) n c) ((B3.out.kpt KWq.out).cell 1)
  have q2 := cell_k (q := w7) (a := ⟨g, off + ix * 10 + 2, none⟩) (v := .int .i64 z2) (K0q.out.cell c2_)
  have q4 := cell_k (q := w7) (a := ⟨g, off + ix * 10 + 4, none⟩) (v := .int .i64 z4) (K0q.out.cell c4_)
  have q0 := cell_k (q := w7) (a := ⟨w1.heap.size, 2, none⟩) (v := .slice b1 B1.length d1) (((R2.out.kpt KKw3.out).kpt KQw7.out).cell 2)
  have RB7 : ReadsP w7 (.slice b1 B1.length d1) B1 := OwnsP.reads (row_kpt OB1.out (ktr KK13.out KQw7.out)) IB.out
  have LQ := Lib.hid (fun p : KptTo w7 => L2 p.w _ (RB7.kpt p.h))
  clear L2
  refine quiet_k (q := w7) mixed (by kernel_rfl) ?_
  repeat (go_big_quiet_step (first | (go_at_call 29; with_reducible refine calls_k (LQ.out _)) | fail))
  refine wpQuiet_nil ?_
  intro w8 hw1
  obtain ⟨⟨wz, kz⟩, hw2⟩ := hw1
  have hw3 : w8 = wz := hw2
  clear hw2
  subst hw3
  have KQw8 : Hid (Kpt w3 w8) := ktr KQw7.out kz
  clear kz
  clear LQ q0 q1 q2 q4 KWq K0q RB7
  have KK18 : Hid (Kpt w1 w8) := ktr KK13.out KQw8.out
  have K8 : Hid (Kpt w w8) := ktr K3b.out KQw8.out
  have BX : Hid (Blk w8 w1.heap.size #[.int .i64 T, .slice (some ⟨g1, 0, none⟩) n c1, .slice b1 B1.length d1] 31) := (R2.out.kpt KKw3.out).kpt KQw8.out
  have BW : Hid (Blk w8 w.heap.size #[.int .i64 T, .slice (some ⟨g, off, none⟩) n c, .slice ab nb cb] 31) := B3.out.kpt (ktr KW3.out KQw8.out)
  have x0 : World.cell? w8 ⟨w1.heap.size, 0, none⟩ = some (.int .i64 T) := BX.out.cell 0
  have x1 : World.cell? w8 ⟨w1.heap.size, 1, none⟩ = some (.slice (some ⟨g1, 0, none⟩) n c1) := BX.out.cell 1
  have x2 : World.cell? w8 ⟨w1.heap.size, 2, none⟩ = some (.slice b1 B1.length d1) := BX.out.cell 2
  have RF8 : Hid (ReadsF w8 (.slice (some ⟨g1, 0, none⟩) n c1) F1) := OwnsN.readsF (OwnsN.kpt OF1.out KK18.out) FB.out
  have RN8 : Hid (NilC (.slice (some ⟨g1, 0, none⟩) n c1)) := row_nil OF1.out
  have RP8 : Hid (ReadsP w8 (.slice b1 B1.length d1) B1) := OwnsP.reads (row_kpt OB1.out KK18.out) IB.out
  clear c0_ y0_
  clear c1_ y1_
  clear c2_ y2_
  clear c3_ y3_
  clear c4_ y4_
  clear c5_ y5_
  clear c6_ y6_
  clear c7_ y7_
  clear c8_ y8_
  clear c9_ y9_
  go_wp2_with (first
    | (go_at_call 20; (with_reducible refine (A2 _ _ _ RF8.out RN8.out RP8.out).mono ?_); rintro e w9 ⟨fv1, bv1, rfl, of1, ob1, k1⟩; have K9 : Hid (Kpt w w9) := ktr K8.out k1; have KK89 : Hid (Kpt w8 w9) := k1; have OF9 := Lib.hid of1; have OB9 := Lib.hid ob1; obtain ⟨a9, n9, c9, rfl, -⟩ := OwnsN.form of1; obtain ⟨b9, d9, rfl⟩ := OwnsP.form ob1; have Z9 : Hid (Blk (w9.alloc (.cells #[.int .i64 0, .slice none 0 0, .slice none 0 0] 31)) w9.heap.size #[.int .i64 0, .slice none 0 0, .slice none 0 0] 31) := Blk.made _ _ _; have KZ9 : Hid (Kpt w (w9.alloc (.cells #[.int .i64 0, .slice none 0 0, .slice none 0 0] 31))) := K9.out.alloc _; clear of1 ob1 k1 A2 x0 x1 x2)
    | (refine wp_storeW rfl (.tmp 21) (.tmp 152) rfl w9.heap.size _ _ rfl rfl Z9.out rfl rfl (by simp [Value.oneCell']) ?_; intro w10 r9 k9 o9; have R10 := Lib.hid r9; have K10 : Hid (Kpt w w10) := k9 _ _ KZ9.out (Below.size K9.out); have KK10 : Hid (Kpt w9 w10) := k9 _ _ ((Kpt.refl w9).alloc _) (Nat.le_refl _); have KK8a : Hid (Kpt w8 w10) := ktr KK89.out KK10.out; have v0 : World.cell? w10 ⟨w.heap.size, 0, none⟩ = some (.int .i64 T) := (Blk.kpt BW.out KK8a.out).cell 0; have v1 : World.cell? w10 ⟨w.heap.size, 1, none⟩ = some (.slice (some ⟨g, off, none⟩) n c) := (Blk.kpt BW.out KK8a.out).cell 1; have v2 : World.cell? w10 ⟨w.heap.size, 2, none⟩ = some (.slice ab nb cb) := (Blk.kpt BW.out KK8a.out).cell 2; clear r9 k9 o9)
    | (go_at_call 20; (with_reducible refine (A3 _ K10.out).mono ?_); rintro e w11 ⟨fv1, bv1, rfl, of1, ob1, k1⟩; have K11 : Hid (Kpt w w11) := ktr K10.out k1; have KKab : Hid (Kpt w10 w11) := k1; have OF11 := Lib.hid of1; have OB11 := Lib.hid ob1; obtain ⟨a11, n11, c11, rfl, -⟩ := OwnsN.form of1; obtain ⟨b11, d11, rfl⟩ := OwnsP.form ob1; have Z11 : Hid (Blk (w11.alloc (.cells #[.int .i64 0, .slice none 0 0, .slice none 0 0] 31)) w11.heap.size #[.int .i64 0, .slice none 0 0, .slice none 0 0] 31) := Blk.made _ _ _; have KZ11 : Hid (Kpt w (w11.alloc (.cells #[.int .i64 0, .slice none 0 0, .slice none 0 0] 31))) := K11.out.alloc _; clear of1 ob1 k1 A3 v0 v1 v2)
    | (refine wp_storeW rfl (.tmp 23) (.tmp 163) rfl w11.heap.size _ _ rfl rfl Z11.out rfl rfl (by simp [Value.oneCell']) ?_; intro w12 r9 k9 o9; have R12 := Lib.hid r9; have K12 : Hid (Kpt w w12) := k9 _ _ KZ11.out (Below.size K11.out); have KK12 : Hid (Kpt w11 w12) := k9 _ _ ((Kpt.refl w11).alloc _) (Nat.le_refl _); have KKac : Hid (Kpt w10 w12) := ktr KKab.out KK12.out; have x0 : World.cell? w12 ⟨w9.heap.size, 0, none⟩ = some (.int .i64 T) := (Blk.kpt R10.out KKac.out).cell 0; have x1 : World.cell? w12 ⟨w9.heap.size, 1, none⟩ = some (.slice a9 n9 c9) := (Blk.kpt R10.out KKac.out).cell 1; have x2 : World.cell? w12 ⟨w9.heap.size, 2, none⟩ = some (.slice b9 B2.length d9) := (Blk.kpt R10.out KKac.out).cell 2; have v0 : World.cell? w12 ⟨w11.heap.size, 0, none⟩ = some (.int .i64 T) := (Blk.kpt R12.out (Kpt.refl _)).cell 0; have v1 : World.cell? w12 ⟨w11.heap.size, 1, none⟩ = some (.slice a11 n11 c11) := (Blk.kpt R12.out (Kpt.refl _)).cell 1; have v2 : World.cell? w12 ⟨w11.heap.size, 2, none⟩ = some (.slice b11 B2.length d11) := (Blk.kpt R12.out (Kpt.refl _)).cell 2; have SW := Lib.hid (sameW_any T (.slice a9 n9 c9) (.slice a11 n11 c11) (.slice b9 B2.length d9) (.slice b11 B2.length d11) F2 B2 w12 (OwnsN.readsF (OwnsN.kpt OF9.out (ktr KK10.out KKac.out)) FB2.out) (OwnsN.readsF (OwnsN.kpt OF11.out KK12.out) FB2.out) (OwnsP.reads (row_kpt OB9.out (ktr KK10.out KKac.out)) IB2.out) (OwnsP.reads (row_kpt OB11.out KK12.out) IB2.out)); clear r9 k9 o9)
    | (go_at_call 18; (with_reducible refine SW.out.mono ?_); rintro z w13 ⟨rfl, kk⟩; have K13 : Hid (Kpt w w13) := ktr K12.out kk; clear kk)
    | fail)
  go_ret
  exact ⟨rfl, K13.out⟩

end Go.Proofs.YthaahebggboliaaGreat

-- LawCGm
namespace Go.Proofs.YthaahebggboliaaGreat
open Go.RowKit
set_option linter.unusedVariables false

theorem tk_mk {l : List Int} {n : Int} (h0 : failEL l = 0) (h1 : 1 ≤ n) (h2 : n ≤ 1073741824) (h3 : n ≤ opL l) : tkL l n = 0 := by
  unfold tkL takeE
  rw [if_pos h0, if_neg (by omega), if_neg (by omega), if_neg (by omega)]
theorem op_val {l : List Int} (h : failEL l = 0) : opL l = l.getD 6 0 - l.getD 7 0 - l.getD 8 0 - l.getD 9 0 := by
  show openV _ _ _ _ _ _ _ _ _ _ = _
  unfold openV
  rw [if_pos (show failE _ _ _ _ _ _ _ _ _ _ = 0 from h)]
theorem del_ok {l : List Int} {n : Int} (h : tkL l n = 0) : failEL (delF l n) = 0 ∧ opL (delF l n) = opL l - n := by
  obtain ⟨h0, h1, h2, h3⟩ := tk_0 h
  have o := op_val h0
  obtain ⟨k1, k2, k3, k4⟩ := fail_0 (show failE _ _ _ _ _ _ _ _ _ _ = 0 from h0)
  obtain ⟨a1, a2, a3⟩ := ftk_t k3
  have k : failEL (delF l n) = 0 := by
    show failE (l.getD 0 0) (l.getD 1 0) (l.getD 2 0) (l.getD 3 0) (l.getD 4 0) (l.getD 5 0) (l.getD 6 0) (l.getD 7 0 + n) (l.getD 8 0) (l.getD 9 0) = 0
    unfold failE
    rw [if_pos k1, if_neg k2, if_pos, if_neg (by omega)]
    simp only [ftk, Bool.and_eq_true]
    exact ⟨decide_eq_true (by omega), decide_eq_true a2, decide_eq_true a3⟩
  refine ⟨k, ?_⟩
  rw [op_val k]
  show l.getD 6 0 - (l.getD 7 0 + n) - l.getD 8 0 - l.getD 9 0 = _
  omega
theorem del_del (l : List Int) (p q : Int) : delF (delF l p) q = delF l (p + q) := by
  show [l.getD 0 0, l.getD 1 0, l.getD 2 0, l.getD 3 0, l.getD 4 0, l.getD 5 0, l.getD 6 0, l.getD 7 0 + p + q, l.getD 8 0, l.getD 9 0] = _
  rw [Int.add_assoc]
  rfl
theorem delL_evn (l : List Int) (n : Int) : evnB (delL l n) = true := evn_mk fun u _ => by
  show (if l.getD 4 0 = (u : Int) then -n else 0) + ((if l.getD 4 0 = (u : Int) then n else 0) + 0) = 0
  split <;> omega
theorem delL_chk {l : List Int} {n : Int} (h : tkL l n = 0) : chkE (delL l n) = 0 := by
  unfold chkE
  rw [if_neg (by simp [delL]), if_neg (by simp [delL]), if_pos (List.all_eq_true.2 (delL_pt h)), delL_evn]
  rfl
theorem delL_sum (l : List Int) (p q a u : Int) : sumAt (delL l (p + q)) a u = sumAt (delL l p) a u + sumAt (delL l q) a u := by
  simp only [delL, sumAt]
  split <;> split <;> omega
theorem cpo_posted {b : List (Int × Int × Int)} {l : List Int} {n : Int} (h : cpoE b (delL l n) = 0) : Posted b (delL l n) (cpoB b (delL l n)) := by
  rcases cpo_cases h with ⟨e, _⟩ | ⟨_, p⟩
  · cases e
  · exact p
theorem give_both {b : List (Int × Int × Int)} {l : List Int} {p q : Int} (h1 : cpoE b (delL l p) = 0) (h2 : cpoE (cpoB b (delL l p)) (delL l q) = 0) (ht : tkL l (p + q) = 0) :
    cpoE b (delL l (p + q)) = 0 ∧ cpoB b (delL l (p + q)) = cpoB (cpoB b (delL l p)) (delL l q) := by
  have P1 := cpo_posted h1
  have P2 := cpo_posted h2
  have sm : ∀ a u, sumAt (b ++ delL l (p + q)) a u = sumAt (cpoB b (delL l p) ++ delL l q) a u := fun a u => by
    rw [sumAt_append, sumAt_append, P1.sum, delL_sum]; omega
  have am : ∀ a u, amtB (sumAt (b ++ delL l (p + q)) a u) = true := fun a u => by rw [sm]; exact P2.amt a u
  have bk : mrgL (b ++ delL l (p + q)) = cpoB (cpoB b (delL l p)) (delL l q) := book_ext (mrg_book am) P2.book sm
  have ne : delL l (p + q) ≠ [] := by simp [delL]
  have e : pstE b (delL l (p + q)) = 0 := by
    unfold pstE
    rw [if_pos P1.lin, if_pos (delL_chk ht), if_pos (allA_f am), bk, if_neg (by have := P2.few; omega)]
  refine ⟨by unfold cpoE; rw [if_neg ne]; exact e, ?_⟩
  unfold cpoB
  rw [if_neg ne, if_pos e]
  unfold pstR
  rw [if_pos e, bk]
  rfl
theorem idx_same (id : Int) : ∀ (fs gs : List (List Int)) (k : Nat), idsOf fs = idsOf gs → idxF id fs k = idxF id gs k
  | [], [], _, _ => rfl
  | [], _ :: _, _, h => by cases h
  | _ :: _, [], _, h => by cases h
  | l :: fs, m :: gs, k, h => by
    have h1 : l.getD 0 0 = m.getD 0 0 := (List.cons.inj h).1
    have h2 : idsOf fs = idsOf gs := (List.cons.inj h).2
    show (if l.getD 0 0 = id then (k : Int) else idxF id fs (k + 1)) = (if m.getD 0 0 = id then (k : Int) else idxF id gs (k + 1))
    rw [h1, idx_same id fs gs (k + 1) h2]
theorem ids_set {fs : List (List Int)} {k : Nat} {l : List Int} (hk : k < fs.length) (h : l.getD 0 0 = (fs.getD k []).getD 0 0) : idsOf (fs.set k l) = idsOf fs := by
  unfold idsOf
  rw [List.map_set]
  have e : (fs.map fun l => l.getD 0 0)[k]'(by rw [List.length_map]; exact hk) = l.getD 0 0 := by
    have ek : fs.getD k [] = fs[k] := by rw [List.getD_eq_getElem?_getD, List.getElem?_eq_getElem hk]; rfl
    rw [List.getElem_map, h, ek]
  rw [← e]
  exact List.set_getElem_self _
theorem strict_amtG {l : List (Int × Int × Int)} (h : Strict (-1) l) (a u : Int) : amtB (sumAt l a u) = true := by
  by_cases hq : ∃ q ∈ l, q.1 = a ∧ q.2.1 = u
  · obtain ⟨q, hq, rfl, rfl⟩ := hq
    rw [sumAt_mem h hq]
    exact amt_mk (pt_t (strict_pt h q hq)).2.2.2.2.2.1 (pt_t (strict_pt h q hq)).2.2.2.2.2.2
  · rw [sumAt_none fun q hq' e => hq ⟨q, hq', e⟩]; decide
theorem bal_twoG {l : List (Int × Int × Int)} (h : linE l = 0) {a u : Int} (hp : plB a u = true) : balE l a u = 0 ∧ balR l a u = sumAt l a u := by
  have hE : balE l a u = 0 := by unfold balE; rw [if_neg (by simpa using h), hp]; rfl
  exact ⟨hE, by unfold balR; rw [if_pos hE, bal_sum (lin_0 h).2.1]⟩
theorem cgives_plain (T iD p q : Int) (fv bv : Value) (fs : List (List Int)) (b : List (Int × Int × Int)) (w : World) (hF : ReadsF w fv fs) (hn : NilC fv) (hb : ReadsP w bv b) :
    Calls Tryz.prog 8 #[.agg #[.int .i64 T, fv, bv], .int .i64 iD, .int .i64 p, .int .i64 q] w fun e w' => e = .returned (.bool true) ∧ Kpt w w' := by
  have A1 := fun w' (k : Kpt w w') => deliver_any T iD p fv bv fs b w' (hF.kpt k) hn (hb.kpt k)
  have A3 := fun w' (k : Kpt w w') => deliver_any T iD (p + q) fv bv fs b w' (hF.kpt k) hn (hb.kpt k)
  have FI := fun w' (k : Kpt w w') => find_run fv fs iD w' (hF.kpt k)
  have L1 := fun ac un w' (k : Kpt w w') => balance_any bv b ac un w' (hb.kpt k)
  obtain ⟨a, c, rfl, -⟩ := _root_.id hF
  obtain ⟨ab, cb, rfl, -⟩ := _root_.id hb
  by_cases h : dvE T iD p fs b = 0
  · obtain ⟨hw, hd⟩ := orE_0 h
    obtain ⟨-, hck, hlb⟩ := wld_0 hw
    unfold dlE at hd
    have hix : ¬ idxF iD fs 0 < 0 := fun e => by rw [if_pos e] at hd; cases hd
    rw [if_neg hix] at hd
    have htk : tkL (atF iD fs) p = 0 := by
      by_cases e : tkL (atF iD fs) p = 0
      · exact e
      · rw [if_neg e] at hd; exact hd
    rw [if_pos htk] at hd
    have hlt : ixF iD fs < fs.length := by
      rcases idx_bd iD fs 0 with e | e
      · exact absurd e hix
      · unfold ixF; omega
    have hie : idxF iD fs 0 = (ixF iD fs : Int) := by unfold ixF; omega
    rw [h, show dvT T iD p fs b = T from if_pos h, show dvF T iD p fs b = fs.set (ixF iD fs) (delF (atF iD fs) p) from if_pos h, show dvB T iD p fs b = cpoB b (delL (atF iD fs) p) from if_pos h] at A1
    have FI' : ∀ w', Kpt w w' → Calls Tryz.prog 36 #[.slice a fs.length c, .int .i64 iD] w' fun e w'' => e = .returned (.tuple #[.int .i64 (ixF iD fs : Int), .int .i64 0]) ∧ Kpt w' w'' := fun w' k => by
      have := (FI w' k).2.2 hck hix
      rwa [hie] at this
    have hat : fs.getD (ixF iD fs) [] = atF iD fs := rfl
    have hids : idsOf (fs.set (ixF iD fs) (delF (atF iD fs) p)) = idsOf fs := ids_set hlt rfl
    have hixF : ∀ gs, idsOf gs = idsOf fs → ixF iD gs = ixF iD fs := fun gs e => by unfold ixF; rw [idx_same iD gs fs 0 e]
    have tk := tk_0 htk
    have dk := del_ok htk
    have o1 := op_val tk.1
    have fd := fdue_t (fail_0 (show failE _ _ _ _ _ _ _ _ _ _ = 0 from tk.1)).1
    have fne := (fail_0 (show failE _ _ _ _ _ _ _ _ _ _ = 0 from tk.1)).2.1
    have PO := cpo_posted hd
    have pl : plB ((atF iD fs).getD 2 0) ((atF iD fs).getD 4 0) = true := by unfold plB; exact decide_eq_true (by omega)
    have b1 := bal_twoG hlb pl
    have b2 := bal_twoG PO.lines pl
    have sm : sumAt (cpoB b (delL (atF iD fs) p)) ((atF iD fs).getD 2 0) ((atF iD fs).getD 4 0) = sumAt b ((atF iD fs).getD 2 0) ((atF iD fs).getD 4 0) + p := by
      rw [PO.sum]
      congr 1
      simp only [delL, sumAt]
      rw [if_neg (fun e => fne e.1), if_pos ⟨trivial, trivial⟩]
      omega
    have am := strict_amtG (lin_0 PO.lines).2.1 ((atF iD fs).getD 2 0) ((atF iD fs).getD 4 0)
    have hset : (fs.set (ixF iD fs) (delF (atF iD fs) p)).getD (ixF iD fs) [] = delF (atF iD fs) p := by
      rw [List.getD_eq_getElem?_getD, List.getElem?_set_self hlt]; rfl
    have hfl : ∀ m ∈ fs.set (ixF iD fs) (delF (atF iD fs) p), failEL m = 0 := fun m hm => by
      rcases List.mem_or_eq_of_mem_set hm with e | e
      · exact ck_fail hck m e
      · rw [e]; exact dk.1
    have OP1 := fun w' => fopenX_run ((atF iD fs).getD 0 0) ((atF iD fs).getD 1 0) ((atF iD fs).getD 2 0) ((atF iD fs).getD 3 0) ((atF iD fs).getD 4 0) ((atF iD fs).getD 5 0) ((atF iD fs).getD 6 0) ((atF iD fs).getD 7 0) ((atF iD fs).getD 8 0) ((atF iD fs).getD 9 0) w'
    change ∀ w', Calls Tryz.prog 34 _ w' fun e w'' => e = .returned (.tuple #[.int .i64 (opL (atF iD fs)), .int .i64 (failEL (atF iD fs))]) ∧ Kpt w' w'' at OP1
    rw [tk.1] at OP1
    have OP2 := fun w' => fopenX_run ((delF (atF iD fs) p).getD 0 0) ((delF (atF iD fs) p).getD 1 0) ((delF (atF iD fs) p).getD 2 0) ((delF (atF iD fs) p).getD 3 0) ((delF (atF iD fs) p).getD 4 0) ((delF (atF iD fs) p).getD 5 0) ((delF (atF iD fs) p).getD 6 0) ((delF (atF iD fs) p).getD 7 0) ((delF (atF iD fs) p).getD 8 0) ((delF (atF iD fs) p).getD 9 0) w'
    change ∀ w', Calls Tryz.prog 34 _ w' fun e w'' => e = .returned (.tuple #[.int .i64 (opL (delF (atF iD fs) p)), .int .i64 (failEL (delF (atF iD fs) p))]) ∧ Kpt w' w'' at OP2
    rw [dk.1] at OP2
    have hx0 := ftk_t (fail_0 (show failE _ _ _ _ _ _ _ _ _ _ = 0 from tk.1)).2.2.1
    have hu0 := fd.2.2.2.2.2
    have w1 : IntKind.i64.wrap (opL (atF iD fs) - p) = opL (delF (atF iD fs) p) := by
      rw [dk.2, IntWalk.i64_in _ (by omega)]
    have w2 : IntKind.i64.wrap (sumAt b ((atF iD fs).getD 2 0) ((atF iD fs).getD 4 0) + p) = sumAt (cpoB b (delL (atF iD fs) p)) ((atF iD fs).getD 2 0) ((atF iD fs).getD 4 0) := by
      rw [sm] at am ⊢
      have := amt_t am
      rw [IntWalk.i64_in _ (by omega)]
    have LL1 : ∀ w', Kpt w w' → Calls Tryz.prog 29 #[.slice ab b.length cb, .int .i64 ((atF iD fs).getD 2 0), .int .i64 ((atF iD fs).getD 4 0)] w' fun e w'' => e = .returned (.tuple #[.int .i64 (sumAt b ((atF iD fs).getD 2 0) ((atF iD fs).getD 4 0)), .int .i64 0]) ∧ Kpt w' w'' := fun w' k => by
      refine (L1 _ _ w' k).mono ?_
      rintro e w'' ⟨rfl, g⟩
      exact ⟨by rw [b1.1, b1.2], g.kpt⟩
    have LL2 : ∀ w' b1, ReadsP w' b1 (cpoB b (delL (atF iD fs) p)) → Calls Tryz.prog 29 #[b1, .int .i64 ((atF iD fs).getD 2 0), .int .i64 ((atF iD fs).getD 4 0)] w' fun e w'' => e = .returned (.tuple #[.int .i64 (sumAt (cpoB b (delL (atF iD fs) p)) ((atF iD fs).getD 2 0) ((atF iD fs).getD 4 0)), .int .i64 0]) ∧ Kpt w' w'' := fun w' v1 r => by
      refine (balance_any v1 _ _ _ w' r).mono ?_
      rintro e w'' ⟨rfl, g⟩
      exact ⟨by rw [b2.1, b2.2], g.kpt⟩
    have A2 := fun w' v1 b1 (r1 : ReadsF w' v1 (fs.set (ixF iD fs) (delF (atF iD fs) p))) (r2 : NilC v1) (r3 : ReadsP w' b1 (cpoB b (delL (atF iD fs) p))) => deliver_any T iD q v1 b1 _ _ w' r1 r2 r3
    by_cases h2 : dvE T iD q (fs.set (ixF iD fs) (delF (atF iD fs) p)) (cpoB b (delL (atF iD fs) p)) = 0
    · obtain ⟨hw2, hd2⟩ := orE_0 h2
      unfold dlE at hd2
      have e1 : idxF iD (fs.set (ixF iD fs) (delF (atF iD fs) p)) 0 = idxF iD fs 0 := idx_same iD _ _ 0 hids
      have e2 : atF iD (fs.set (ixF iD fs) (delF (atF iD fs) p)) = delF (atF iD fs) p := by
        show (fs.set (ixF iD fs) (delF (atF iD fs) p)).getD (ixF iD (fs.set (ixF iD fs) (delF (atF iD fs) p))) [] = _
        rw [hixF _ hids]; exact hset
      have e3 : ixF iD (fs.set (ixF iD fs) (delF (atF iD fs) p)) = ixF iD fs := hixF _ hids
      have eL : delL (delF (atF iD fs) p) q = delL (atF iD fs) q := rfl
      rw [e1, if_neg hix, e2, eL] at hd2
      have htk2 : tkL (delF (atF iD fs) p) q = 0 := by
        by_cases e : tkL (delF (atF iD fs) p) q = 0
        · exact e
        · rw [if_neg e] at hd2; exact hd2
      rw [if_pos htk2] at hd2
      have tk2 := tk_0 htk2
      have dk2 := del_ok htk2
      have hu := fd.2.2.2.2.2
      have hx := ftk_t (fail_0 (show failE _ _ _ _ _ _ _ _ _ _ = 0 from tk.1)).2.2.1
      have htk3 : tkL (atF iD fs) (p + q) = 0 := tk_mk tk.1 (by omega) (by omega) (by omega)
      obtain ⟨g1, g2⟩ := give_both hd hd2 htk3
      have h3 : dvE T iD (p + q) fs b = 0 := by
        unfold dvE dlE
        rw [hw, if_neg hix, if_pos htk3, g1]; rfl
      have eF2 : (fs.set (ixF iD fs) (delF (atF iD fs) p)).set (ixF iD fs) (delF (delF (atF iD fs) p) q) = fs.set (ixF iD fs) (delF (atF iD fs) (p + q)) := by rw [List.set_set, del_del]
      rw [h2, show dvT T iD q (fs.set (ixF iD fs) (delF (atF iD fs) p)) (cpoB b (delL (atF iD fs) p)) = T from if_pos h2, show dvF T iD q (fs.set (ixF iD fs) (delF (atF iD fs) p)) (cpoB b (delL (atF iD fs) p)) = fs.set (ixF iD fs) (delF (atF iD fs) (p + q)) from (if_pos h2).trans (by rw [e3, e2, eF2]), show dvB T iD q (fs.set (ixF iD fs) (delF (atF iD fs) p)) (cpoB b (delL (atF iD fs) p)) = cpoB (cpoB b (delL (atF iD fs) p)) (delL (atF iD fs) q) from (if_pos h2).trans (by rw [e2, eL])] at A2
      rw [h3, show dvT T iD (p + q) fs b = T from if_pos h3, show dvF T iD (p + q) fs b = fs.set (ixF iD fs) (delF (atF iD fs) (p + q)) from if_pos h3, show dvB T iD (p + q) fs b = cpoB b (delL (atF iD fs) (p + q)) from if_pos h3, g2] at A3
      refine cgi_ok T iD p q a ab fs.length c b.length cb w fs (ixF iD fs) (atF iD fs) (delF (atF iD fs) p) _ _ _ _ _ _ hF hlt rfl hset (by rw [List.length_set]) w1 w2 (fun m hm => flB_fail (hfl m hm)) (inp_lin PO.lines) FI' OP1 OP2 LL1 LL2 A1 _ _ (IntWalk.i64_in _ (by omega)) (fun m hm => ?_) (inp_lin (cpo_posted hd2).lines) A2 A3
      rcases List.mem_or_eq_of_mem_set hm with e | e
      · exact flB_fail (ck_fail hck m e)
      · rw [e, ← del_del]; exact flB_fail dk2.1
    · rw [show dvT T iD q (fs.set (ixF iD fs) (delF (atF iD fs) p)) (cpoB b (delL (atF iD fs) p)) = 0 from if_neg h2, show dvF T iD q (fs.set (ixF iD fs) (delF (atF iD fs) p)) (cpoB b (delL (atF iD fs) p)) = [] from if_neg h2, show dvB T iD q (fs.set (ixF iD fs) (delF (atF iD fs) p)) (cpoB b (delL (atF iD fs) p)) = [] from if_neg h2] at A2
      exact cgi_no2 T iD p q a ab fs.length c b.length cb w fs (ixF iD fs) (atF iD fs) (delF (atF iD fs) p) _ _ _ _ _ _ hF hlt rfl hset (by rw [List.length_set]) w1 w2 (fun m hm => flB_fail (hfl m hm)) (inp_lin PO.lines) FI' OP1 OP2 LL1 LL2 A1 _ (bne_iff_ne.2 h2) A2
  · rw [show dvT T iD p fs b = 0 from if_neg h, show dvF T iD p fs b = [] from if_neg h, show dvB T iD p fs b = [] from if_neg h] at A1
    exact cgi_no T iD p q a ab fs.length c b.length cb w _ (bne_iff_ne.2 h) A1

end Go.Proofs.YthaahebggboliaaGreat
