/-
  What Count of package cal does: contracts.
-/
import Derived.Test.YtmoanndonfmihaaCalH
import Derived.Deep.RegionHeld3
import Derived.IntWalk
namespace Go.Proofs.Ytmoanndonfmihaa
open Go.RowKit
set_option linter.unusedVariables false

theorem two_cells (w : World) (f t : Int) : ∀ j, j < [f, t].length → (w.alloc (.cells #[.int .i64 f, .int .i64 t] 3)).cell? ⟨w.heap.size, 0 + j, none⟩ = some (.int .i64 ([f, t].getD j 0)) := by
  intro j hj
  rcases (show j = 0 ∨ j = 1 by simp at hj; omega) with rfl | rfl <;> simp [go_sem]
theorem daysE_2 {W : Int} {hs : List Int} {f t : Int} (h : daysE W hs [f, t] = 0) : calE W hs = 0 ∧ 0 ≤ f ∧ f ≤ 3652058 ∧ 0 ≤ t ∧ t ≤ 3652058 := by
  unfold daysE at h
  by_cases hE : calE W hs = 0
  · rw [if_pos hE] at h
    refine ⟨hE, ?_⟩
    unfold dysE at h
    by_cases hd : [f, t].all dayB = true
    · have : dayB f = true ∧ dayB t = true := by simpa using hd
      have a := day_t this.1
      have b := day_t this.2
      omega
    · rw [if_neg hd] at h; cases h
  · rw [if_neg hE] at h; exact absurd h hE

/-- checkDays of two days, where a calendar was boxed -/
theorem check2 (W f t : Int) (a : Option Addr) (cap : Nat) (hs : List Int) (w : World) (hr : Reads w (.slice a hs.length cap) hs) (hf : Fits hs) :
    Calls Try.prog 113 #[calV W (.slice a hs.length cap), .slice (some ⟨w.heap.size + 1, 0, none⟩) 2 2] ((w.alloc (.cells #[.int .i64 W, .slice a hs.length cap] 24)).alloc (.cells #[.int .i64 f, .int .i64 t] 3)) fun e w' => e = .returned (.int .i64 (daysE W hs [f, t])) ∧ Grew w w' ∧ w'.cell? ⟨w.heap.size, 0, none⟩ = some (.int .i64 W) ∧ w'.cell? ⟨w.heap.size, 1, none⟩ = some (.slice a hs.length cap) := by
  have := checkDays_any W (.slice a hs.length cap) hs [f, t] (w.heap.size + 1) 0 2 ((w.alloc (.cells #[.int .i64 W, .slice a hs.length cap] 24)).alloc (.cells #[.int .i64 f, .int .i64 t] 3)) (hr.grew (((Grew.refl w).alloc _ _).alloc _ _)) hf (by simp) (by
    have := two_cells (w.alloc (.cells #[.int .i64 W, .slice a hs.length cap] 24)) f t
    rw [World.size_alloc] at this
    exact this)
  refine this.mono ?_
  rintro e w' ⟨rfl, g⟩
  exact ⟨rfl, gtr (((Grew.refl w).alloc _ _).alloc _ _) g, g.cell (p := ⟨w.heap.size, 0, none⟩) (v := .int .i64 W) (by simp; omega) (by simp [go_sem]), g.cell (p := ⟨w.heap.size, 1, none⟩) (v := .slice a hs.length cap) (by simp; omega) (by simp [go_sem])⟩

set_option maxRecDepth 100000 in
theorem count_bad (W f t : Int) (v : Value) (hs : List Int) (w : World) (hr : Reads w v hs) (hf : Fits hs) (hE : daysE W hs [f, t] ≠ 0) :
    Calls Try.prog 85 #[calV W v, .int .i64 f, .int .i64 t] w fun e w' => e = .returned (.tuple #[.int .i64 0, .int .i64 (daysE W hs [f, t])]) ∧ Kpt w w' := by
  obtain ⟨a, cap, rfl, hm, hc⟩ := id hr
  have CK := Lib.hid (check2 W f t a cap hs w hr hf)
  generalize daysE W hs [f, t] = x at CK hE ⊢
  have q : (x == 0) = false := beq_eq_false_iff_ne.2 hE
  clear hr hm hc hE
  go_enter Try.func85, Try.ntmps85
  go_wp2_with (go_at_call 113; (with_reducible refine CK.out.mono ?_); rintro e w1 ⟨rfl, g1, -, -⟩; have G1 := Lib.hid g1; clear g1)
  go_ret2
  exact ⟨rfl, G1.out.kpt⟩
set_option maxRecDepth 100000 in
theorem count_form (W f t : Int) (v : Value) (hs : List Int) (w : World) (hr : Reads w v hs) (hf : Fits hs) (hE : daysE W hs [f, t] = 0) (hlt : t < f) :
    Calls Try.prog 85 #[calV W v, .int .i64 f, .int .i64 t] w fun e w' => e = .returned (.tuple #[.int .i64 0, .int .i64 1]) ∧ Kpt w w' := by
  obtain ⟨a, cap, rfl, hm, hc⟩ := id hr
  have CK := Lib.hid (hE ▸ check2 W f t a cap hs w hr hf)
  clear hr hm hc hE
  go_enter Try.func85, Try.ntmps85
  go_wp2_with (go_at_call 113; (with_reducible refine CK.out.mono ?_); rintro e w1 ⟨rfl, g1, -, -⟩; have G1 := Lib.hid g1; clear g1)
  go_ret2
  exact ⟨rfl, G1.out.kpt⟩

set_option maxRecDepth 100000 in
set_option maxHeartbeats 2000000 in
theorem count_ok (W f t : Int) (v : Value) (hs : List Int) (w : World) (hr : Reads w v hs) (hf : Fits hs) (hE : daysE W hs [f, t] = 0) (hft : f ≤ t) :
    Calls Try.prog 85 #[calV W v, .int .i64 f, .int .i64 t] w fun e w' => e = .returned (.tuple #[.int .i64 (cnt (bizB W hs) f t : Nat), .int .i64 0]) ∧ Kpt w w' := by
  obtain ⟨hE0, f0, f1, t0, t1⟩ := daysE_2 hE
  obtain ⟨h0, h1, hl, hp⟩ := cal_right hE0
  obtain ⟨a, cap, rfl, hm, hc⟩ := id hr
  have CK := Lib.hid (hE ▸ check2 W f t a cap hs w hr hf)
  have RD := Lib.hid hr
  have CI := Lib.hid (count_is hE0 f0 hft)
  have hol := Lib.hid (cal_strict hE0).2
  obtain ⟨q, hq⟩ : ∃ q, (t - f) / 7 = q := ⟨_, rfl⟩
  obtain ⟨r, hr'⟩ : ∃ r, (t - f) % 7 = r := ⟨_, rfl⟩
  have q0 : 0 ≤ q := by omega
  have q1 : q ≤ 521722 := by omega
  have r0 : 0 ≤ r := by omega
  have r1 : r ≤ 6 := by omega
  have rt : f ≤ t - r := by omega
  have ob := ones_bd W.toNat
  obtain ⟨o0, o1⟩ := ob
  obtain ⟨p, hpp⟩ : ∃ p, q * (7 - ones W.toNat) = p := ⟨_, rfl⟩
  have p0 : 0 ≤ p := by rw [← hpp]; exact Int.mul_nonneg q0 (by omega)
  have p1 : p ≤ 521722 * 7 := by rw [← hpp]; exact Int.mul_le_mul q1 (by omega) (by omega) (by omega)
  have hw : IntKind.i64.wrap (q * (7 - ones W.toNat)) = p := by rw [hpp]; exact IntWalk.i64_in _ (by omega)
  have kb := cnt_le (wrkB W) (t - r) t
  have WD := Lib.hid (fun w => workdays_any W (t - r) t a hs.length cap h0 h1 (by omega) (by omega) t1 w)
  have OC := Lib.hid (fun w => onesCount W h0 h1 w)
  unfold Hid at CI
  rw [hq, hr', hpp] at CI
  have CI' := Lib.hid CI
  generalize ones W.toNat = o at *
  generalize cnt (wrkB W) (t - r) t = k at *
  have k1 : (k : Int) ≤ 6 := by omega
  have hu : IntKind.u64.wrap W = W := by unfold IntKind.wrap; simp [IntKind.bits, IntKind.signed]; omega
  have h7 : IntKind.i64.wrap (7 - o) = 7 - o := IntWalk.i64_in _ (by omega)
  have ht : IntKind.i64.wrap (t - r) = t - r := IntWalk.i64_in _ (by omega)
  have hpk : IntKind.i64.wrap (p + (k : Int)) = p + (k : Int) := IntWalk.i64_in _ (by omega)
  clear hr hm hc hE hE0 hf CI hp kb hpp
  go_enter Try.func85, Try.ntmps85
  go_wp2_with (go_at_call 113; (with_reducible refine CK.out.mono ?_); rintro e w1 ⟨rfl, g1, c0, c1⟩; have G1 := Lib.hid g1; clear g1)
  go_region_held3 (fun w' => w'.cell? ⟨w.heap.size, 0, none⟩ = some (.int .i64 W) ∧ w'.cell? ⟨w.heap.size, 1, none⟩ = some (.slice a hs.length cap) ∧ Hid (Grew w w')) ((refine ⟨?_, ?_, ?_⟩ <;> (first | go_keep | assumption | exact G1.out.drew)))
    (first
      | (go_at_call 117; refine (OC.out _).mono ?_; rintro e w' ⟨rfl, rfl⟩)
      | (go_at_call 118; refine (WD.out _).mono ?_; rintro e w2 ⟨rfl, g2⟩; have d0 := g2.cell (cell_in (v := .int .i64 W) (p := ⟨w.heap.size, 0, none⟩) (by assumption)) (by assumption); have d1 := g2.cell (cell_in (v := .slice a hs.length cap) (p := ⟨w.heap.size, 1, none⟩) (by assumption)) (by assumption); have G2 : Hid (Grew w w2) := gtr G1.out.drew g2; clear g2))
  clear c0 c1
  go_wp2
  go_loopw [11, 50] (fun c i wr => ∃ (j : Nat) (x : Int), j ≤ hs.length ∧ i = .int .i64 j ∧ c = .int .i64 x ∧ -(j : Int) ≤ x ∧ x ≤ 4000000 ∧ Hid (x = p + (k : Int) - ((holC W f t (hs.take j) : Nat) : Int)) ∧ wr.cell? ⟨w.heap.size, 0, none⟩ = some (.int .i64 W) ∧ wr.cell? ⟨w.heap.size, 1, none⟩ = some (.slice a hs.length cap) ∧ Hid (Grew w wr)) (fun _ i _ => hs.length - (intOf i).toNat)
  case atStart => exact ⟨0, p + k, Nat.zero_le _, rfl, rfl, by omega, by omega, by unfold Hid; rw [List.take_zero, holC]; omega, d0, d1, G2⟩
  case round =>
    clear d0 d1
    obtain ⟨j, x, hj, rfl, rfl, x0, x1, HX, d0, d1, HG⟩ := hrel
    by_cases hlt : j < hs.length
    · have hh := hol.out (hs.getD j 0) (by rw [List.getD_eq_getElem?_getD, List.getElem?_eq_getElem hlt]; simp)
      have ht' := holC_take W f t hlt
      have rd := RD.out.grew HG.out
      obtain ⟨a', cap', e, hm, hc⟩ := rd
      simp only [Value.slice.injEq, true_and] at e
      obtain ⟨rfl, rfl⟩ := e
      obtain ⟨b, off, rfl, hx⟩ := hc j hlt
      clear hc hm
      generalize hs.getD j 0 = h at hh ht' hx
      obtain ⟨hh0, hh1⟩ := hh
      unfold holB wrkB at ht'
      by_cases c1 : f < h
      · by_cases c2 : h ≤ t
        · have WK := Lib.hid (isWeekend_any W h (some ⟨b, off, none⟩) hs.length cap h0 h1 hh0 hh1 wr)
          rw [decide_eq_true (show f < h ∧ h ≤ t from ⟨c1, c2⟩)] at ht'
          cases hb : wkB W h with
          | true =>
            rw [hb] at WK ht'
            have HS : Hid (x = p + (k : Int) - ((holC W f t (hs.take (j + 1)) : Nat) : Int)) := by unfold Hid; rw [ht', HX.out]; simp
            clear ht' hb
            go_wp2_with (go_at_call 119; (with_reducible refine WK.out.mono ?_); rintro e w3 ⟨rfl, g3⟩; have e0 := g3.cell (cell_in d0) d0; have e1 := g3.cell (cell_in d1) d1; have G3 := Lib.hid (gtr HG.out g3); clear g3)
            go_roundw
            case rel => exact ⟨j + 1, x, by omega, by go_num, rfl, by omega, by omega, HS, e0, e1, G3⟩
            case measure => simp [intOf]; omega
          | false =>
            rw [hb] at WK ht'
            have HS : Hid (x - 1 = p + (k : Int) - ((holC W f t (hs.take (j + 1)) : Nat) : Int)) := by unfold Hid; rw [ht', HX.out]; simp; omega
            clear ht' hb
            go_wp2_with (go_at_call 119; (with_reducible refine WK.out.mono ?_); rintro e w3 ⟨rfl, g3⟩; have e0 := g3.cell (cell_in d0) d0; have e1 := g3.cell (cell_in d1) d1; have G3 := Lib.hid (gtr HG.out g3); clear g3)
            go_roundw
            case rel => exact ⟨j + 1, x - 1, by omega, by go_num, rfl, by omega, by omega, HS, e0, e1, G3⟩
            case measure => simp [intOf]; omega
        · rw [decide_eq_false (fun g => c2 g.2)] at ht'
          have HS : Hid (x = p + (k : Int) - ((holC W f t (hs.take (j + 1)) : Nat) : Int)) := by unfold Hid; rw [ht', HX.out]; simp
          have q2 : decide (h ≤ t) = false := decide_eq_false c2
          clear ht'
          go_wp2
          go_roundw
          case rel => exact ⟨j + 1, x, by omega, by go_num, rfl, by omega, by omega, HS, d0, d1, HG⟩
          case measure => simp [intOf]; omega
      · rw [decide_eq_false (fun g => c1 g.1)] at ht'
        have HS : Hid (x = p + (k : Int) - ((holC W f t (hs.take (j + 1)) : Nat) : Int)) := by unfold Hid; rw [ht', HX.out]; simp
        have q2 : decide (f < h) = false := decide_eq_false c1
        clear ht'
        go_wp2
        go_roundw
        case rel => exact ⟨j + 1, x, by omega, by go_num, rfl, by omega, by omega, HS, d0, d1, HG⟩
        case measure => simp [intOf]; omega
    · have hx := HX.out
      rw [List.take_of_length_le (by omega), CI'.out] at hx
      have HY := Lib.hid hx
      clear hx
      go_wp2
      go_ret2
      exact ⟨ret_tup2 HY.out rfl, HG.out.kpt⟩

end Go.Proofs.Ytmoanndonfmihaa
