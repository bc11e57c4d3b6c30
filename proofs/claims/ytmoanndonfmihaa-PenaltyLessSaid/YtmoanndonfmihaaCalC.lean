/-
  What checkDays and Is of package cal do: contracts.
-/
import Derived.Test.YtmoanndonfmihaaCalB
namespace Go.Proofs.Ytmoanndonfmihaa
open Go.RowKit
set_option linter.unusedVariables false

def dayB (n : Int) : Bool := decide (0 ≤ n ∧ n ≤ 3652058)
theorem day_t {n : Int} (h : dayB n = true) : 0 ≤ n ∧ n ≤ 3652058 := of_decide_eq_true h
theorem day_f {n : Int} (h : dayB n = false) : ¬ (0 ≤ n ∧ n ≤ 3652058) := of_decide_eq_false h
/-- a calendar's holidays fit their kind -/
def Fits (hs : List Int) : Prop := ∀ j, j < hs.length → -9223372036854775808 ≤ hs.getD j 0 ∧ hs.getD j 0 ≤ 9223372036854775807

/-- what is wrong with days -/
def dysE (ns : List Int) : Int := if ns.all dayB then 0 else 3
/-- what is wrong with a calendar and days -/
def daysE (W : Int) (hs ns : List Int) : Int := if calE W hs = 0 then dysE ns else calE W hs

theorem calE_bd (W : Int) (hs : List Int) : 0 ≤ calE W hs ∧ calE W hs ≤ 6 := by
  have hol : ∀ (l : List Int) (b : Int), 0 ≤ holE b l ∧ holE b l ≤ 6 := by
    intro l
    induction l with
    | nil => intro b; exact ⟨Int.le_refl _, (by decide : (0 : Int) ≤ 6)⟩
    | cons h t ih =>
      intro b
      rw [holE]
      split
      · decide
      · split
        · decide
        · split
          · decide
          · exact ih h
  unfold calE
  split
  · decide
  · split
    · decide
    · exact hol hs _

set_option maxRecDepth 100000 in
set_option maxHeartbeats 1000000 in
theorem checkDays_bad (W : Int) (v : Value) (hs : List Int) (u : Value) (w : World) (hr : Reads w v hs) (hf : Fits hs) (hE : calE W hs ≠ 0) :
    Calls Try.prog 113 #[calV W v, u] w fun e w' => e = .returned (.int .i64 (calE W hs)) ∧ Grew w w' := by
  obtain ⟨a, cap, rfl, hm, hc⟩ := id hr
  have CK := Lib.hid (fun w' (g : Grew w w') => calCheck_any W _ hs w' (hr.grew g) hf)
  have bd := calE_bd W hs
  generalize calE W hs = x at CK hE bd ⊢
  have q : (x == 0) = false := beq_eq_false_iff_ne.2 hE
  clear hr hm hc hE
  go_enter Try.func113, Try.ntmps113
  go_wp2_with (go_at_call 26; (with_reducible refine (CK.out _ ((Grew.refl _).alloc _ _)).mono ?_); rintro e w1 ⟨rfl, g1⟩; have G1 := Lib.hid g1; clear g1)
  go_ret
  exact ⟨rfl, gtr ((Grew.refl _).alloc _ _) G1.out⟩

set_option maxRecDepth 100000 in
set_option maxHeartbeats 1000000 in
theorem checkDays_ok (W : Int) (v : Value) (hs ns : List Int) (g off cap2 : Nat) (w : World) (hr : Reads w v hs) (hf : Fits hs) (hE : calE W hs = 0) (hn : ns.length ≤ 100) (hc : ∀ j, j < ns.length → w.cell? ⟨g, off + j, none⟩ = some (.int .i64 (ns.getD j 0))) :
    Calls Try.prog 113 #[calV W v, .slice (some ⟨g, off, none⟩) ns.length cap2] w fun e w' => e = .returned (.int .i64 (dysE ns)) ∧ Grew w w' := by
  obtain ⟨a, cap, rfl, hm, _⟩ := id hr
  have CK := Lib.hid (fun w' (g : Grew w w') => calCheck_any W _ hs w' (hr.grew g) hf)
  rw [hE] at CK
  have HC := Lib.hid hc
  clear hr hm hE hc hf
  go_enter Try.func113, Try.ntmps113
  go_wp2_with (go_at_call 26; (with_reducible refine (CK.out _ ((Grew.refl _).alloc _ _)).mono ?_); rintro e w1 ⟨rfl, g1⟩; have G1 := Lib.hid (gtr ((Grew.refl w).alloc _ _) g1); clear g1)
  go_loop [15] (fun i => ∃ k : Nat, k ≤ ns.length ∧ i = .int .i64 k ∧ Hid (∀ j, j < k → dayB (ns.getD j 0) = true)) (fun i => ns.length - (intOf i).toNat)
  case atStart => exact ⟨0, Nat.zero_le _, rfl, fun _ h => absurd h (Nat.not_lt_zero _)⟩
  case round =>
    obtain ⟨k, hk, rfl, HA⟩ := hrel
    by_cases hlt : k < ns.length
    · have c1 := G1.out.cell (cell_in (HC.out k hlt)) (HC.out k hlt)
      cases hb : dayB (ns.getD k 0) with
      | true =>
        have hb' := day_t hb
        have HB := Lib.hid hb
        clear hb
        generalize hz : ns.getD k 0 = z at c1 hb' HB
        have HZ := Lib.hid hz
        clear hz
        have D := Lib.hid (fun w => calDay_t z hb'.1 hb'.2 w)
        go_wp2_with (go_at_call 78; (with_reducible refine (D.out _).mono ?_); rintro e w' ⟨rfl, rfl⟩)
        go_round
        case rel => exact ⟨k + 1, by omega, by go_num, fun j hj => by
          rcases Nat.lt_succ_iff_lt_or_eq.1 hj with h | h
          · exact HA.out j h
          · rw [h, HZ.out]; exact HB.out⟩
        case measure => simp [intOf]; omega
      | false =>
        have hb' := day_f hb
        have E : Hid (dysE ns = 3) := by
          unfold Hid dysE
          rw [if_neg]
          intro h
          have := List.all_eq_true.1 h (ns.getD k 0) (by rw [List.getD_eq_getElem?_getD, List.getElem?_eq_getElem hlt]; simp)
          rw [hb] at this; cases this
        clear hb
        generalize ns.getD k 0 = z at c1 hb'
        have D := Lib.hid (fun w => calDay_f z (by omega) w)
        clear hb'
        go_wp2_with (go_at_call 78; (with_reducible refine (D.out _).mono ?_); rintro e w' ⟨rfl, rfl⟩)
        go_ret
        exact ⟨ret_int E.out.symm, G1.out⟩
    · have E : Hid (dysE ns = 0) := by
        unfold Hid dysE
        rw [if_pos]
        refine List.all_eq_true.2 fun x hx => ?_
        obtain ⟨j, hj, rfl⟩ := List.getElem_of_mem hx
        have := HA.out j (by omega)
        rwa [List.getD_eq_getElem?_getD, List.getElem?_eq_getElem hj] at this
      go_wp2
      go_ret
      exact ⟨ret_int E.out.symm, G1.out⟩

theorem checkDays_any (W : Int) (v : Value) (hs ns : List Int) (g off cap2 : Nat) (w : World) (hr : Reads w v hs) (hf : Fits hs) (hn : ns.length ≤ 100) (hc : ∀ j, j < ns.length → w.cell? ⟨g, off + j, none⟩ = some (.int .i64 (ns.getD j 0))) :
    Calls Try.prog 113 #[calV W v, .slice (some ⟨g, off, none⟩) ns.length cap2] w fun e w' => e = .returned (.int .i64 (daysE W hs ns)) ∧ Grew w w' := by
  by_cases hE : calE W hs = 0
  · have := checkDays_ok W v hs ns g off cap2 w hr hf hE hn hc
    unfold daysE
    rw [if_pos hE]
    exact this
  · have := checkDays_bad W v hs (.slice (some ⟨g, off, none⟩) ns.length cap2) w hr hf hE
    unfold daysE
    rw [if_neg hE]
    exact this

/-- a calendar that is right -/
theorem hol_sorted {b : Int} {hs : List Int} (h : holE b hs = 0) : hs.Pairwise (· ≤ ·) ∧ (∀ x ∈ hs, b ≤ x ∧ 0 ≤ x ∧ x ≤ 3652058) := by
  induction hs generalizing b with
  | nil => exact ⟨List.Pairwise.nil, by simp⟩
  | cons a t ih =>
    rw [holE] at h
    by_cases h1 : 0 ≤ a ∧ a ≤ 3652058
    · rw [if_neg (by omega)] at h
      by_cases h2 : a = b
      · rw [if_pos h2] at h; cases h
      · rw [if_neg h2] at h
        by_cases h3 : a < b
        · rw [if_pos h3] at h; cases h
        · rw [if_neg h3] at h
          obtain ⟨i1, i2⟩ := ih h
          refine ⟨List.pairwise_cons.2 ⟨fun x hx => (i2 x hx).1, i1⟩, fun x hx => ?_⟩
          rcases List.mem_cons.1 hx with rfl | hx
          · exact ⟨by omega, h1⟩
          · have := i2 x hx; exact ⟨by omega, this.2⟩
    · rw [if_pos h1] at h; cases h
theorem cal_right {W : Int} {hs : List Int} (h : calE W hs = 0) : 0 ≤ W ∧ W ≤ 126 ∧ hs.length ≤ 60 ∧ hs.Pairwise (· ≤ ·) := by
  by_cases hW : W < 0 ∨ 126 < W
  · rw [calE_w hW] at h; cases h
  · by_cases hl : 60 < hs.length
    · rw [calE_m hW hl] at h; cases h
    · rw [calE_h hW (by omega)] at h
      exact ⟨by omega, by omega, by omega, (hol_sorted h).1⟩

theorem one_cell (w : World) (n : Int) : ∀ j, j < [n].length → (w.alloc (.cells #[.int .i64 n] 3)).cell? ⟨w.heap.size, 0 + j, none⟩ = some (.int .i64 ([n].getD j 0)) := by
  intro j hj
  obtain rfl : j = 0 := by simpa using hj
  simp [go_sem]
theorem daysE_1 {W : Int} {hs : List Int} {n : Int} (h : daysE W hs [n] = 0) : calE W hs = 0 ∧ 0 ≤ n ∧ n ≤ 3652058 := by
  unfold daysE at h
  by_cases hE : calE W hs = 0
  · rw [if_pos hE] at h
    refine ⟨hE, ?_⟩
    unfold dysE at h
    by_cases hd : [n].all dayB = true
    · exact day_t (by simpa using hd)
    · rw [if_neg hd] at h; cases h
  · rw [if_neg hE] at h; exact absurd h hE

set_option maxRecDepth 100000 in
theorem is_bad (W n : Int) (v : Value) (hs : List Int) (w : World) (hr : Reads w v hs) (hf : Fits hs) (hE : daysE W hs [n] ≠ 0) :
    Calls Try.prog 81 #[calV W v, .int .i64 n] w fun e w' => e = .returned (.tuple #[.bool false, .int .i64 (daysE W hs [n])]) ∧ Grew w w' := by
  obtain ⟨a, cap, rfl, hm, hc⟩ := id hr
  have CK : Hid (∀ w', Grew w w' → Calls Try.prog 113 #[calV W (.slice a hs.length cap), .slice (some ⟨w'.heap.size, 0, none⟩) 1 1] (w'.alloc (.cells #[.int .i64 n] 3)) fun e w'' => e = .returned (.int .i64 (daysE W hs [n])) ∧ Grew (w'.alloc (.cells #[.int .i64 n] 3)) w'') :=
    fun w' g => checkDays_any W _ hs [n] w'.heap.size 0 1 _ (hr.grew (g.alloc _ _)) hf (by simp) (one_cell w' n)
  generalize daysE W hs [n] = x at CK hE ⊢
  have q : (x == 0) = false := beq_eq_false_iff_ne.2 hE
  clear hr hm hc hE
  go_enter Try.func81, Try.ntmps81
  have CK2 := CK.out _ ((Grew.refl w).alloc #[.int .i64 W, .slice a hs.length cap] 24)
  rw [World.size_alloc] at CK2
  have HCK := Lib.hid CK2
  clear CK2
  go_wp2_with (go_at_call 113; (with_reducible refine HCK.out.mono ?_); rintro e w1 ⟨rfl, g1⟩; have G1 := Lib.hid g1; clear g1)
  go_ret2
  exact ⟨rfl, gtr (((Grew.refl _).alloc _ _).alloc _ _) G1.out⟩

set_option maxRecDepth 100000 in
set_option maxHeartbeats 1000000 in
theorem is_ok (W n : Int) (v : Value) (hs : List Int) (w : World) (hr : Reads w v hs) (hf : Fits hs) (hE : daysE W hs [n] = 0) :
    Calls Try.prog 81 #[calV W v, .int .i64 n] w fun e w' => e = .returned (.tuple #[.bool (bizB W hs n), .int .i64 0]) ∧ Grew w w' := by
  obtain ⟨hE0, n0, n1⟩ := daysE_1 hE
  obtain ⟨h0, h1, hl, hp⟩ := cal_right hE0
  obtain ⟨a, cap, rfl, hm, hc⟩ := id hr
  have CK : Calls Try.prog 113 #[calV W (.slice a hs.length cap), .slice (some ⟨w.heap.size + 1, 0, none⟩) 1 1] ((w.alloc (.cells #[.int .i64 W, .slice a hs.length cap] 24)).alloc (.cells #[.int .i64 n] 3)) fun e w' => e = .returned (.int .i64 (daysE W hs [n])) ∧ Grew ((w.alloc (.cells #[.int .i64 W, .slice a hs.length cap] 24)).alloc (.cells #[.int .i64 n] 3)) w' := checkDays_any W (.slice a hs.length cap) hs [n] (w.heap.size + 1) 0 1 ((w.alloc (.cells #[.int .i64 W, .slice a hs.length cap] 24)).alloc (.cells #[.int .i64 n] 3)) (hr.grew (((Grew.refl w).alloc _ _).alloc _ _)) hf (by simp) (by
    have := one_cell (w.alloc (.cells #[.int .i64 W, .slice a hs.length cap] 24)) n
    rw [World.size_alloc] at this
    exact this)
  rw [hE] at CK
  have HCK := Lib.hid CK
  have BZ := Lib.hid (fun w' (g : Grew w w') => isBusiness_any W n _ hs h0 h1 n0 n1 w' (hr.grew g) hl hp)
  clear CK hr hm hc hE hE0 hp hf
  generalize bizB W hs n = q at BZ ⊢
  go_enter Try.func81, Try.ntmps81
  go_wp2_with (first
    | (go_at_call 113; (with_reducible refine HCK.out.mono ?_); rintro e w1 ⟨rfl, g1⟩; have cb := g1.cell (p := ⟨w.heap.size, 0, none⟩) (v := .int .i64 W) (by simp; omega) (by simp [go_sem]); have cv := g1.cell (p := ⟨w.heap.size, 1, none⟩) (v := .slice a hs.length cap) (by simp; omega) (by simp [go_sem]); have G1 := Lib.hid (gtr (((Grew.refl w).alloc _ _).alloc _ _) g1); clear g1)
    | (go_at_call 114; (with_reducible refine (BZ.out _ G1.out).mono ?_); rintro e w2 ⟨rfl, g2⟩; have G2 := Lib.hid g2; clear g2))
  go_ret2
  exact ⟨rfl, gtr G1.out G2.out⟩

end Go.Proofs.Ytmoanndonfmihaa
