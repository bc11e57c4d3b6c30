/-
  What Seats of package share does: contracts.
-/
import Derived.Test.YteooglpipggeoaaShareB
import Derived.Test.YteooglpipggeoaaRow
namespace Go.Proofs.Yteooglpipggeoaa
open Go.RowKit
set_option linter.unusedVariables false

/-- a new row comes back, and no error -/
def Gives (w : World) (ss : List Int) (e : Ending) (w' : World) : Prop :=
  ∃ g, e = .returned (.tuple #[.slice (some ⟨g, 0, none⟩) ss.length ss.length, .int .i64 0]) ∧ w.heap.size ≤ g ∧ Row w' g ss ∧ Grew w w'
theorem gives_mk {w w' : World} {g n : Nat} {ss : List Int} (hn : ss.length = n) (hg : w.heap.size ≤ g) (h : Row w' g ss) (k : Grew w w') : Gives w ss (.returned (.tuple #[.slice (some ⟨g, 0, none⟩) n n, .int .i64 0])) w' := by
  subst hn; exact ⟨g, rfl, hg, h, k⟩

set_option maxRecDepth 100000 in
set_option maxHeartbeats 1000000 in
theorem seats_ones (b off cap : Nat) (zs : List Int) (many : Nat) (hmany : many ≤ 500) (w : World) (hr : Reads w (.slice (some ⟨b, off, none⟩) zs.length cap) zs) (hE : wtsE zs = 0) :
    Calls Try.prog 16 #[.int .i64 many, .slice (some ⟨b, off, none⟩) zs.length cap, .int .i64 1] w (Gives w (sts byOnes zs many)) := by
  have C := Lib.hid (shareCheck_any _ zs w hr)
  rw [hE] at C
  obtain ⟨h0, hm, hall⟩ : zs ≠ [] ∧ zs.length ≤ 40 ∧ zs.all wtB = true := by
    rcases wtsE_cases zs with ⟨_, a, b, c, _⟩ | h
    · exact ⟨a, b, c⟩
    · omega
  have hp : 0 < zs.length := List.length_pos_iff.2 h0
  have hcells : ∀ j, j < zs.length → w.cell? ⟨b, off + j, none⟩ = some (.int .i64 (zs.getD j 0)) := by
    rcases hr.cell with ⟨rfl, _⟩ | ⟨_, b', off', cap', e, hc⟩
    · exact absurd rfl h0
    · injection e with e1 e2 e3
      injection e1 with e1
      injection e1 with e1 e2
      subst e1 e2
      exact hc
  have HW := Lib.hid hcells
  have HWB := Lib.hid (fun k => wt_at hall k)
  have HSB := Lib.hid (fun t k => sts_bd byOnes zs h0 t k)
  have MK := run_zeros w zs.length (by omega)
  have H0 := Lib.hid h0
  clear hcells hall hE hr h0
  go_enter Try.func16, Try.ntmps16
  go_wp2_with (first
    | (go_at_call 20; (with_reducible refine C.out.mono ?_); rintro e w' ⟨rfl, rfl⟩)
    | (go_at_call 55; (with_reducible refine (divisorOf_1 _).mono ?_); rintro e w' ⟨rfl, rfl⟩))
  go_loopw [34] (fun i wr => ∃ t : Nat, t ≤ many ∧ i = .int .i64 t ∧ Hid (Row wr w.heap.size (sts byOnes zs t)) ∧ Hid (Grew w wr)) (fun i _ => many - (intOf i).toNat)
  case atStart => exact ⟨0, Nat.zero_le _, rfl, Row.made w zs.length, (Grew.refl w).alloc _ _⟩
  case round =>
    obtain ⟨t, ht, rfl, HR, HG⟩ := hrel
    clear MK
    by_cases hlt : t < many
    · have hl := sts_len byOnes zs t
      have hb := nx_lt byOnes zs (sts byOnes zs t) hp (Nat.le_refl zs.length)
      have N := nextSeat_ones b off cap w.heap.size 0 zs.length zs (sts byOnes zs t) wr hp hm hl (fun j hj => HG.out.cell (cell_in (HW.out j hj)) (HW.out j hj)) (fun j hj => by rw [Nat.zero_add]; exact HR.out.cell (by rw [hl]; exact hj)) HWB.out (fun k => ⟨(HSB.out t k).1, by have := (HSB.out t k).2; omega⟩)
      have HN : Hid (sts byOnes zs (t + 1) = give (sts byOnes zs t) (nx byOnes zs (sts byOnes zs t) zs.length)) := rfl
      have sb := HSB.out t (nx byOnes zs (sts byOnes zs t) zs.length)
      generalize nx byOnes zs (sts byOnes zs t) zs.length = p at N HN hb sb
      unfold give at HN
      have HP : Hid (∀ w', Grew wr w' → w'.cell? ⟨w.heap.size, p, none⟩ = some (.int .i64 ((sts byOnes zs t).getD p 0)) ∧ w'.frozen? ⟨w.heap.size, p, none⟩ = false) := fun w' g => ⟨(HR.out.grew g).cell (by rw [hl]; exact hb), (HR.out.grew g).frozen p⟩
      generalize (sts byOnes zs t).getD p 0 = z at HN HP sb
      have NN := Lib.hid N
      clear N hl
      go_wp2_with (go_at_call 56; (with_reducible refine NN.out.mono ?_); rintro e w1 ⟨rfl, g1⟩; obtain ⟨hc1, hf1⟩ := HP.out w1 g1; have G1 := Lib.hid g1; clear g1)
      go_roundw
      case rel => exact ⟨t + 1, by omega, by go_num, by unfold Hid at HN ⊢; rw [HN]; exact (HR.out.grew G1.out).put p _, (gtr HG.out G1.out).setCell (Nat.le_refl _) _⟩
      case measure => simp [intOf]; omega
    · obtain rfl : t = many := by omega
      go_wp2
      go_ret2
      exact gives_mk (sts_len _ _ _) (Nat.le_refl _) HR.out HG.out

set_option maxRecDepth 100000 in
set_option maxHeartbeats 1000000 in
theorem seats_odds (b off cap : Nat) (zs : List Int) (many : Nat) (hmany : many ≤ 500) (w : World) (hr : Reads w (.slice (some ⟨b, off, none⟩) zs.length cap) zs) (hE : wtsE zs = 0) :
    Calls Try.prog 16 #[.int .i64 many, .slice (some ⟨b, off, none⟩) zs.length cap, .int .i64 2] w (Gives w (sts byOdds zs many)) := by
  have C := Lib.hid (shareCheck_any _ zs w hr)
  rw [hE] at C
  obtain ⟨h0, hm, hall⟩ : zs ≠ [] ∧ zs.length ≤ 40 ∧ zs.all wtB = true := by
    rcases wtsE_cases zs with ⟨_, a, b, c, _⟩ | h
    · exact ⟨a, b, c⟩
    · omega
  have hp : 0 < zs.length := List.length_pos_iff.2 h0
  have hcells : ∀ j, j < zs.length → w.cell? ⟨b, off + j, none⟩ = some (.int .i64 (zs.getD j 0)) := by
    rcases hr.cell with ⟨rfl, _⟩ | ⟨_, b', off', cap', e, hc⟩
    · exact absurd rfl h0
    · injection e with e1 e2 e3
      injection e1 with e1
      injection e1 with e1 e2
      subst e1 e2
      exact hc
  have HW := Lib.hid hcells
  have HWB := Lib.hid (fun k => wt_at hall k)
  have HSB := Lib.hid (fun t k => sts_bd byOdds zs h0 t k)
  have MK := run_zeros w zs.length (by omega)
  have H0 := Lib.hid h0
  clear hcells hall hE hr h0
  go_enter Try.func16, Try.ntmps16
  go_wp2_with (first
    | (go_at_call 20; (with_reducible refine C.out.mono ?_); rintro e w' ⟨rfl, rfl⟩)
    | (go_at_call 55; (with_reducible refine (divisorOf_2 _).mono ?_); rintro e w' ⟨rfl, rfl⟩))
  go_loopw [34] (fun i wr => ∃ t : Nat, t ≤ many ∧ i = .int .i64 t ∧ Hid (Row wr w.heap.size (sts byOdds zs t)) ∧ Hid (Grew w wr)) (fun i _ => many - (intOf i).toNat)
  case atStart => exact ⟨0, Nat.zero_le _, rfl, Row.made w zs.length, (Grew.refl w).alloc _ _⟩
  case round =>
    obtain ⟨t, ht, rfl, HR, HG⟩ := hrel
    clear MK
    by_cases hlt : t < many
    · have hl := sts_len byOdds zs t
      have hb := nx_lt byOdds zs (sts byOdds zs t) hp (Nat.le_refl zs.length)
      have N := nextSeat_odds b off cap w.heap.size 0 zs.length zs (sts byOdds zs t) wr hp hm hl (fun j hj => HG.out.cell (cell_in (HW.out j hj)) (HW.out j hj)) (fun j hj => by rw [Nat.zero_add]; exact HR.out.cell (by rw [hl]; exact hj)) HWB.out (fun k => ⟨(HSB.out t k).1, by have := (HSB.out t k).2; omega⟩)
      have HN : Hid (sts byOdds zs (t + 1) = give (sts byOdds zs t) (nx byOdds zs (sts byOdds zs t) zs.length)) := rfl
      have sb := HSB.out t (nx byOdds zs (sts byOdds zs t) zs.length)
      generalize nx byOdds zs (sts byOdds zs t) zs.length = p at N HN hb sb
      unfold give at HN
      have HP : Hid (∀ w', Grew wr w' → w'.cell? ⟨w.heap.size, p, none⟩ = some (.int .i64 ((sts byOdds zs t).getD p 0)) ∧ w'.frozen? ⟨w.heap.size, p, none⟩ = false) := fun w' g => ⟨(HR.out.grew g).cell (by rw [hl]; exact hb), (HR.out.grew g).frozen p⟩
      generalize (sts byOdds zs t).getD p 0 = z at HN HP sb
      have NN := Lib.hid N
      clear N hl
      go_wp2_with (go_at_call 56; (with_reducible refine NN.out.mono ?_); rintro e w1 ⟨rfl, g1⟩; obtain ⟨hc1, hf1⟩ := HP.out w1 g1; have G1 := Lib.hid g1; clear g1)
      go_roundw
      case rel => exact ⟨t + 1, by omega, by go_num, by unfold Hid at HN ⊢; rw [HN]; exact (HR.out.grew G1.out).put p _, (gtr HG.out G1.out).setCell (Nat.le_refl _) _⟩
      case measure => simp [intOf]; omega
    · obtain rfl : t = many := by omega
      go_wp2
      go_ret2
      exact gives_mk (sts_len _ _ _) (Nat.le_refl _) HR.out HG.out

/-- no row comes back, but an error -/
theorem seats_bad (v : Value) (zs : List Int) (many kind : Int) (w : World) (hr : Reads w v zs) (hE : 1 ≤ wtsE zs) (hE' : wtsE zs ≤ 4) :
    Calls Try.prog 16 #[.int .i64 many, v, .int .i64 kind] w fun e w' => e = .returned (.tuple #[.slice none 0 0, .int .i64 (wtsE zs)]) ∧ w = w' := by
  have C := Lib.hid (shareCheck_any _ zs w hr)
  generalize wtsE zs = x at C hE hE'
  have q : (x == 0) = false := beq_eq_false_iff_ne.2 (by omega)
  clear hr
  go_enter Try.func16, Try.ntmps16
  go_wp2_with (go_at_call 20; (with_reducible refine C.out.mono ?_); rintro e w' ⟨rfl, rfl⟩)
  go_ret2
  exact ⟨rfl, rfl⟩
theorem seats_rng (v : Value) (zs : List Int) (many kind : Int) (w : World) (hr : Reads w v zs) (hE : wtsE zs = 0) (hm : many < 0 ∨ 500 < many) :
    Calls Try.prog 16 #[.int .i64 many, v, .int .i64 kind] w fun e w' => e = .returned (.tuple #[.slice none 0 0, .int .i64 3]) ∧ w = w' := by
  have C := Lib.hid (shareCheck_any _ zs w hr)
  rw [hE] at C
  clear hr hE
  rcases hm with hm | hm
  · go_enter Try.func16, Try.ntmps16
    go_wp2_with (go_at_call 20; (with_reducible refine C.out.mono ?_); rintro e w' ⟨rfl, rfl⟩)
    go_ret2
    exact ⟨rfl, rfl⟩
  · have h0 : ¬ many < 0 := by omega
    go_enter Try.func16, Try.ntmps16
    go_wp2_with (go_at_call 20; (with_reducible refine C.out.mono ?_); rintro e w' ⟨rfl, rfl⟩)
    go_ret2
    exact ⟨rfl, rfl⟩
theorem seats_kind (v : Value) (zs : List Int) (many kind : Int) (w : World) (hr : Reads w v zs) (hE : wtsE zs = 0) (h0 : 0 ≤ many) (h1 : many ≤ 500) (hk : kind ≠ 1) (hk' : kind ≠ 2) :
    Calls Try.prog 16 #[.int .i64 many, v, .int .i64 kind] w fun e w' => e = .returned (.tuple #[.slice none 0 0, .int .i64 7]) ∧ w = w' := by
  have C := Lib.hid (shareCheck_any _ zs w hr)
  rw [hE] at C
  have D := Lib.hid (divisorOf_no kind hk hk' w)
  clear hr hE hk hk'
  go_enter Try.func16, Try.ntmps16
  go_wp2_with (first
    | (go_at_call 20; (with_reducible refine C.out.mono ?_); rintro e w' ⟨rfl, rfl⟩)
    | (go_at_call 55; (with_reducible refine D.out.mono ?_); rintro e w' ⟨rfl, rfl⟩))
  go_ret2
  exact ⟨rfl, rfl⟩

end Go.Proofs.Yteooglpipggeoaa
