/-
  What Trial of package book does.
-/
import Derived.Test.YtcpfldlcocencaaBookN
import Derived.Test.YtcpfldlcocencaaAmounts
namespace Go.Proofs.Ytcpfldlcocencaa
open Go.RowKit
set_option linter.unusedVariables false

/-- what stands above nought -/
def posP (l : List (Int × Int × Int)) : List (Int × Int × Int) := l.filter fun p => decide (0 < p.2.2)
def posS (l : List (Int × Int × Int)) (u : Nat) : Int := unitS (posP l) u
theorem posP_pt {l : List (Int × Int × Int)} (h : ∀ p ∈ l, ptB p = true) : ∀ p ∈ posP l, ptB p = true := fun p hp => h p (List.mem_filter.1 hp).1
theorem posP_len (l : List (Int × Int × Int)) : (posP l).length ≤ l.length := List.length_filter_le _ _
theorem pos_step {ps : List (Int × Int × Int)} {k : Nat} (hk : k < ps.length) (h : 0 < (ps.getD k default).2.2) (x : Nat) : posS (ps.take (k + 1)) x = posS (ps.take k) x + (if (ps.getD k default).2.1 = (x : Int) then (ps.getD k default).2.2 else 0) := by
  unfold posS posP
  rw [List.take_succ_eq_append_getElem hk, List.filter_append, unitS_append, List.getD_eq_getElem?_getD, List.getElem?_eq_getElem hk] at *
  simp only [Option.getD_some] at h ⊢
  rw [List.filter_cons_of_pos (by simpa using h)]
  simp [unitS]
theorem pos_stay {ps : List (Int × Int × Int)} {k : Nat} (hk : k < ps.length) (h : ¬ 0 < (ps.getD k default).2.2) (x : Nat) : posS (ps.take (k + 1)) x = posS (ps.take k) x := by
  unfold posS posP
  rw [List.take_succ_eq_append_getElem hk, List.filter_append, unitS_append]
  rw [List.getD_eq_getElem?_getD, List.getElem?_eq_getElem hk] at h
  simp only [Option.getD_some] at h
  rw [List.filter_cons_of_neg (by simpa using h)]
  simp [unitS]
theorem okS_pos {ps : List (Int × Int × Int)} (h : ∀ p ∈ ps, ptB p = true) (hn : ps.length ≤ 4096) (k x : Nat) : okS (posS (ps.take k) x) := by
  have h1 := unitS_bd (l := posP (ps.take k)) (posP_pt fun z hz => h z (List.mem_of_mem_take hz)) x
  have h2 := posP_len (ps.take k)
  rw [List.length_take] at h2
  exact okS_mk (k := (posP (ps.take k)).length) (by omega) h1.1 h1.2

/-- what Trial answers -/
def TrialEnd (w : World) (l : List (Int × Int × Int)) (e : Ending) (w' : World) : Prop :=
  Grew w w' ∧ ((linE l ≠ 0 ∧ e = .returned (.tuple #[.slice none 0 0, .int .i64 (linE l)])) ∨
    (linE l = 0 ∧ (((∀ u, u < 21 → amtB (posS l u) = true) ∧ ∃ g, w.heap.size ≤ g ∧ e = .returned (.tuple #[.slice (some ⟨g, 0, none⟩) 21 21, .int .i64 0]) ∧ Row w' g ((List.range 21).map (posS l))) ∨
      ((∃ u, u < 21 ∧ amtB (posS l u) = false) ∧ e = .returned (.tuple #[.slice none 0 0, .int .i64 8])))))

theorem trial_bad (v : Value) (l : List (Int × Int × Int)) (w : World) (hl : ReadsP w v l) (h : linE l ≠ 0) : Calls Try.prog 13 #[v] w (TrialEnd w l) := by
  have LB := Lib.hid (lines_any v l w hl)
  have HH := Lib.hid h
  have q : (linE l != 0) = true := bne_iff_ne.2 h
  clear h hl
  go_enter Try.func13, Try.ntmps13
  go_wp2_with (go_at_call 21; (with_reducible refine LB.out.mono ?_); rintro e w1 ⟨rfl, g1⟩)
  go_ret2
  exact ⟨g1, .inl ⟨HH.out, rfl⟩⟩

theorem amts_trial {w w1 w' : World} {l : List (Int × Int × Int)} {e : Ending} (h : linE l = 0) (g : Grew w w1) (k : AmtsEnd w1 21 (posS l) e w') : TrialEnd w l e w' := by
  obtain ⟨g2, r⟩ := k
  refine ⟨gtr g g2, .inr ⟨h, ?_⟩⟩
  rcases r with ⟨a, b, hb, c, d⟩ | r
  · exact .inl ⟨a, b, Nat.le_trans g.below.size hb, c, d⟩
  · exact .inr r

set_option maxHeartbeats 4000000 in
set_option maxRecDepth 100000 in
theorem trial_some (b off cap : Nat) (ps : List (Int × Int × Int)) (w : World) (hl : ReadsP w (.slice (some ⟨b, off, none⟩) ps.length cap) ps) (h : linE ps = 0) (hc : ∀ j, j < ps.length → PtAt w b (off + j * 3) (ps.getD j default)) :
    Calls Try.prog 13 #[.slice (some ⟨b, off, none⟩) ps.length cap] w (TrialEnd w ps) := by
  have LB := Lib.hid (h ▸ lines_any _ ps w hl)
  obtain ⟨hm, hs, -⟩ := lin_0 h
  have HC := Lib.hid hc
  have HP := Lib.hid (strict_pt hs)
  have HH := Lib.hid h
  clear hc hl hs h
  go_enter Try.func13, Try.ntmps13
  go_wp2_with (go_at_call 21; (with_reducible refine LB.out.mono ?_); rintro e w0 ⟨rfl, g0⟩; have G0 := Lib.hid g0; clear g0)
  go_loopw [15] (fun i wr => ∃ k : Nat, k ≤ ps.length ∧ i = .int .i64 k ∧ Hid (Blk wr w0.heap.size (sumsC 21 (posS (ps.take k))) 57) ∧ Hid (Grew w0 wr)) (fun i _ => ps.length - (intOf i).toNat)
  case atStart => exact ⟨0, Nat.zero_le _, rfl, sums_made w0, (Grew.refl _).alloc _ _⟩
  case round =>
    obtain ⟨k, hk, rfl, HB, HG⟩ := hrel
    by_cases hlt : k < ps.length
    · obtain ⟨c0, c1, c2⟩ := ((HC.out k hlt).grew G0.out).grew HG.out
      have hq := pt_t (HP.out _ (getP_mem hlt))
      have hst := Lib.hid (pos_step hlt)
      have hsy := Lib.hid (pos_stay hlt)
      have hok := okS_pos HP.out (by omega) k
      generalize ps.getD k default = p at c0 c1 c2 hq hst hsy
      obtain ⟨A, U, N⟩ := p
      simp only at c0 c1 c2 hq
      obtain ⟨u, rfl⟩ : ∃ u : Nat, U = (u : Int) := ⟨U.toNat, by omega⟩
      obtain ⟨-, -, -, hu, hz, hn0, hn1⟩ := hq
      have HOK := Lib.hid (hok u); clear hok
      have hu' : u < 21 := by omega
      clear hz
      by_cases hpos : 0 < N
      · have HST := Lib.hid (hst.out hpos)
        clear hst hsy
        have d0 : wr.cell? ⟨w0.heap.size, u * 2, none⟩ = some (.int .i64 (hiOf (posS (ps.take k) u))) := (HB.out.cell _).trans (sums_hi 21 _ u hu')
        have d1 : wr.cell? ⟨w0.heap.size, u * 2 + 1, none⟩ = some (.int .u64 (loOf (posS (ps.take k) u))) := (HB.out.cell _).trans (sums_lo 21 _ u hu')
        go_wp2
        have e0 : (wr.alloc (.cells #[.int .i64 A, .int .i64 (u : Int), .int .i64 N] 35)).cell? ⟨wr.heap.size, 0, none⟩ = some (.int .i64 A) := (Blk.made wr _ _).cell 0
        have e1 : (wr.alloc (.cells #[.int .i64 A, .int .i64 (u : Int), .int .i64 N] 35)).cell? ⟨wr.heap.size, 1, none⟩ = some (.int .i64 (u : Int)) := (Blk.made wr _ _).cell 1
        have e2 : (wr.alloc (.cells #[.int .i64 A, .int .i64 (u : Int), .int .i64 N] 35)).cell? ⟨wr.heap.size, 2, none⟩ = some (.int .i64 N) := (Blk.made wr _ _).cell 2
        have GA := Lib.hid (HG.out.alloc #[.int .i64 A, .int .i64 (u : Int), .int .i64 N] 35)
        have WA := Lib.hid (HB.out.alloc (.cells #[.int .i64 A, .int .i64 (u : Int), .int .i64 N] 35))
        clear d0 d1 c0 c1 c2
        generalize wr.alloc (.cells #[.int .i64 A, .int .i64 (u : Int), .int .i64 N] 35) = W1 at *
        have d0 : W1.cell? ⟨w0.heap.size, u * 2, none⟩ = some (.int .i64 (hiOf (posS (ps.take k) u))) := (WA.out.cell _).trans (sums_hi 21 _ u hu')
        have d1 : W1.cell? ⟨w0.heap.size, u * 2 + 1, none⟩ = some (.int .u64 (loOf (posS (ps.take k) u))) := (WA.out.cell _).trans (sums_lo 21 _ u hu')
        have hlt2 : w0.heap.size < wr.heap.size := HB.out.lt
        have hne : wr.heap.size ≠ w0.heap.size := by omega
        have hne' : w0.heap.size ≠ wr.heap.size := by omega
        have hu0 : (0 : Int) ≤ (u : Int) := by omega
        have hu1 : (u : Int) < 21 := by omega
        go_region_with (go_at_call 34; (with_reducible refine (plus_at (posS (ps.take k) u) N _ HOK.out (by omega) (by omega)).mono ?_); rintro e w1 ⟨rfl, g1⟩; have k1 := g1.cell (cell_in (w := W1.drew) e1) e1; have B1 := Lib.hid ((WA.out.drew).grew g1); have d2 : w1.cell? ⟨w0.heap.size, u * 2, none⟩ = some (.int .i64 (hiOf (posS (ps.take k) u))) := (B1.out.cell _).trans (sums_hi 21 _ u hu'); have d3 : w1.cell? ⟨w0.heap.size, u * 2 + 1, none⟩ = some (.int .u64 (loOf (posS (ps.take k) u))) := (B1.out.cell _).trans (sums_lo 21 _ u hu'); have f0 := B1.out.frozen (u * 2); have f1 := B1.out.frozen (u * 2 + 1); have G1 := Lib.hid (gtr GA.out.drew g1); clear g1)
        all_goals go_wp2
        all_goals go_roundw
        all_goals first
          | (case rel => exact ⟨k + 1, by omega, by go_num, unit_put hu' HST.out B1.out, (G1.out.setCell (by simp) _).setCell (by simp) _⟩)
          | (case measure => simp [intOf]; omega)
      · have HSY := Lib.hid (hsy.out hpos)
        clear hst hsy
        have hpos' : decide (0 < N) = false := decide_eq_false hpos
        have HBx : Hid (Blk wr w0.heap.size (sumsC 21 (posS (ps.take (k + 1)))) 57) := by
          unfold Hid
          rw [sums_ext (g := posS (ps.take k)) fun x _ => HSY.out x]
          exact HB.out
        go_wp2
        go_roundw
        case rel => exact ⟨k + 1, by omega, by go_num, HBx.out.alloc _, HG.out.alloc _ _⟩
        case measure => simp [intOf]; omega
    · have e : ps.take k = ps := List.take_of_length_le (by omega)
      rw [e] at HB
      clear e
      have HX := Lib.hid (fun (_ : True) => amounts_run w0.heap.size 21 21 (posS ps) _ wr (by omega) HB.out)
      have HK := Lib.hid (fun e w' => amts_trial (e := e) (w' := w') HH.out (gtr G0.out HG.out))
      go_wp2_with (go_at_call 35; (with_reducible refine (HX.out trivial).mono ?_); intro e w4 h4; have T4 := Lib.hid (HK.out e w4 h4); obtain ⟨_, ⟨_, g4, _, rfl, _⟩ | ⟨_, rfl⟩⟩ := h4)
      all_goals
        go_ret2
        exact T4.out

set_option maxRecDepth 100000 in
theorem trial_none (a : Option Addr) (cap : Nat) (w : World) :
    Calls Try.prog 13 #[.slice a 0 cap] w (TrialEnd w []) := by
  have LB := Lib.hid (lines_none a cap w)
  have HH : Hid (linE [] = 0) := (by decide : linE [] = 0)
  go_enter Try.func13, Try.ntmps13
  go_wp2_with (go_at_call 21; (with_reducible refine LB.out.mono ?_); rintro e w0 ⟨rfl, g0⟩; have G0 := Lib.hid g0; clear g0)
  go_loopw [15] (fun i wr => i = .int .i64 0 ∧ Hid (Blk wr w0.heap.size (sumsC 21 (posS [])) 57) ∧ Hid (Grew w0 wr)) (fun _ _ => 0)
  case atStart => exact ⟨rfl, sums_made w0, (Grew.refl _).alloc _ _⟩
  case round =>
    obtain ⟨rfl, HB, HG⟩ := hrel
    have HX := Lib.hid (fun (_ : True) => amounts_run w0.heap.size 21 21 (posS []) _ wr (by omega) HB.out)
    have HK := Lib.hid (fun e w' => amts_trial (e := e) (w' := w') HH.out (gtr G0.out HG.out))
    go_wp2_with (go_at_call 35; (with_reducible refine (HX.out trivial).mono ?_); intro e w4 h4; have T4 := Lib.hid (HK.out e w4 h4); obtain ⟨_, ⟨_, g4, _, rfl, _⟩ | ⟨_, rfl⟩⟩ := h4)
    all_goals
      go_ret2
      exact T4.out

theorem trial_any (v : Value) (l : List (Int × Int × Int)) (w : World) (hl : ReadsP w v l) : Calls Try.prog 13 #[v] w (TrialEnd w l) := by
  by_cases h : linE l = 0
  · rcases hl.cell with ⟨rfl, a, cap, rfl⟩ | ⟨_, b, off, cap, rfl, hc⟩
    · exact trial_none a cap w
    · exact trial_some b off cap l w hl h hc
  · exact trial_bad v l w hl h

end Go.Proofs.Ytcpfldlcocencaa
