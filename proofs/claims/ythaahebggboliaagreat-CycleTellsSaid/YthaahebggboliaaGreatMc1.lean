/-
  Merged: CalA, CalB, CalC.
-/
import Derived.Test.YthaahebggboliaaGreatDateC
import Derived.Test.YthaahebggboliaaGreatShelf
-- CalA
namespace Go.Proofs.YthaahebggboliaaGreat
open Go.RowKit
set_option linter.unusedVariables false

/-- what is wrong with holidays, behind one that is 'before' -/
def holE (before : Int) : List Int → Int
  | [] => 0
  | h :: t => if ¬ (0 ≤ h ∧ h ≤ 3652058) then 3 else if h = before then 6 else if h < before then 4 else holE h t
/-- what is wrong with a calendar -/
def calE (W : Int) (hs : List Int) : Int := if W < 0 ∨ 126 < W then 3 else if 60 < hs.length then 2 else holE (-1) hs
theorem calE_w {W : Int} {hs : List Int} (h : W < 0 ∨ 126 < W) : calE W hs = 3 := by unfold calE; rw [if_pos h]
theorem calE_m {W : Int} {hs : List Int} (h : ¬ (W < 0 ∨ 126 < W)) (h2 : 60 < hs.length) : calE W hs = 2 := by unfold calE; rw [if_neg h, if_pos h2]
theorem calE_h {W : Int} {hs : List Int} (h : ¬ (W < 0 ∨ 126 < W)) (h2 : hs.length ≤ 60) : calE W hs = holE (-1) hs := by unfold calE; rw [if_neg h, if_neg (by omega)]
theorem holE_step {b : Int} {hs : List Int} {k : Nat} (hk : k < hs.length) : holE b (hs.drop k) = (if ¬ (0 ≤ hs.getD k 0 ∧ hs.getD k 0 ≤ 3652058) then 3 else if hs.getD k 0 = b then 6 else if hs.getD k 0 < b then 4 else holE (hs.getD k 0) (hs.drop (k + 1))) := by
  rw [List.drop_eq_getElem_cons hk, holE, List.getD_eq_getElem?_getD, List.getElem?_eq_getElem hk]; rfl

theorem calDay_t (y : Int) (h1 : 0 ≤ y) (h2 : y ≤ 3652058) (w : World) :
    Calls Tryz.prog 101 #[.int .i64 y] w fun e w' => e = .returned (.bool true) ∧ w = w' := by
  go_enter Tryz.func101, Tryz.ntmps101
  go_wp2
  go_ret
  exact ⟨rfl, rfl⟩
theorem calDay_f (y : Int) (h : y < 0 ∨ 3652058 < y) (w : World) :
    Calls Tryz.prog 101 #[.int .i64 y] w fun e w' => e = .returned (.bool false) ∧ w = w' := by
  rcases h with h | h
  · go_enter Tryz.func101, Tryz.ntmps101
    go_wp2
    go_ret
    exact ⟨rfl, rfl⟩
  · have h' : 0 ≤ y := by omega
    go_enter Tryz.func101, Tryz.ntmps101
    go_wp2
    go_ret
    exact ⟨ret_bool (decide_eq_false (by omega)), rfl⟩

/-- a calendar, as it is handed in -/
abbrev calV (W : Int) (v : Value) : Value := .agg #[.int .i64 W, v]

theorem calCheck_w (W : Int) (a : Option Addr) (n cap : Nat) (h : W < 0 ∨ 126 < W) (w : World) :
    Calls Tryz.prog 50 #[calV W (.slice a n cap)] w fun e w' => e = .returned (.int .i64 3) ∧ Grew w w' := by
  rcases h with h | h
  · go_enter Tryz.func50, Tryz.ntmps50
    go_wp2
    go_ret
    exact ⟨rfl, (Grew.refl _).alloc _ _⟩
  · have h' : ¬ W < 0 := by omega
    go_enter Tryz.func50, Tryz.ntmps50
    go_wp2
    go_ret
    exact ⟨rfl, (Grew.refl _).alloc _ _⟩
theorem calCheck_m (W : Int) (a : Option Addr) (n cap : Nat) (h0 : 0 ≤ W) (h1 : W ≤ 126) (hn : 60 < n) (hm : n ≤ maxLen) (w : World) :
    Calls Tryz.prog 50 #[calV W (.slice a n cap)] w fun e w' => e = .returned (.int .i64 2) ∧ Grew w w' := by
  unfold maxLen at hm
  go_enter Tryz.func50, Tryz.ntmps50
  go_wp2
  go_ret
  exact ⟨rfl, (Grew.refl _).alloc _ _⟩
theorem calCheck_none (W : Int) (a : Option Addr) (cap : Nat) (h0 : 0 ≤ W) (h1 : W ≤ 126) (w : World) :
    Calls Tryz.prog 50 #[calV W (.slice a 0 cap)] w fun e w' => e = .returned (.int .i64 0) ∧ Grew w w' := by
  go_enter Tryz.func50, Tryz.ntmps50
  go_wp2
  go_loop [3, 21] (fun b i => b = .int .i64 (-1) ∧ i = .int .i64 0) (fun _ _ => 0)
  case atStart => exact ⟨rfl, rfl⟩
  case round =>
    obtain ⟨rfl, rfl⟩ := hrel
    go_wp2
    go_ret
    exact ⟨rfl, (Grew.refl _).alloc _ _⟩

set_option maxRecDepth 100000 in
set_option maxHeartbeats 1000000 in
theorem calCheck_some (W : Int) (b off cap : Nat) (hs : List Int) (h0 : 0 ≤ W) (h1 : W ≤ 126) (hn : hs.length ≤ 60) (w : World) (hc : ∀ j, j < hs.length → w.cell? ⟨b, off + j, none⟩ = some (.int .i64 (hs.getD j 0))) (hwf : ∀ j, j < hs.length → -9223372036854775808 ≤ hs.getD j 0 ∧ hs.getD j 0 ≤ 9223372036854775807) :
    Calls Tryz.prog 50 #[calV W (.slice (some ⟨b, off, none⟩) hs.length cap)] w fun e w' => e = .returned (.int .i64 (holE (-1) hs)) ∧ Grew w w' := by
  have HC := Lib.hid hc
  have HWF := Lib.hid hwf
  clear hc hwf
  go_enter Tryz.func50, Tryz.ntmps50
  go_wp2
  go_loop [3, 21] (fun p i => ∃ (k : Nat) (z : Int), k ≤ hs.length ∧ i = .int .i64 k ∧ p = .int .i64 z ∧ -1 ≤ z ∧ z ≤ 3652058 ∧ Hid (holE z (hs.drop k) = holE (-1) hs)) (fun _ i => hs.length - (intOf i).toNat)
  case atStart => exact ⟨0, -1, Nat.zero_le _, rfl, rfl, by omega, by omega, by unfold Hid; rw [List.drop_zero]⟩
  case round =>
    obtain ⟨k, z, hk, rfl, rfl, z0, z1, HE⟩ := hrel
    by_cases hlt : k < hs.length
    · have c0 := HC.out k hlt
      have c1 : (w.alloc (.cells #[.int .i64 W, .slice (some ⟨b, off, none⟩) hs.length cap] 24)).cell? ⟨b, off + k, none⟩ = some (.int .i64 (hs.getD k 0)) := ((Grew.refl w).alloc _ _).cell (cell_in c0) c0
      have st := holE_step (b := z) hlt
      rw [HE.out] at st
      clear c0
      generalize hs.getD k 0 = h at c1 st
      by_cases hd : 0 ≤ h ∧ h ≤ 3652058
      · rw [if_neg (by omega)] at st
        have D := Lib.hid (fun w => calDay_t h hd.1 hd.2 w)
        obtain ⟨d0, d1⟩ := hd
        by_cases he : h = z
        · rw [if_pos he] at st
          have ST := Lib.hid st
          clear st
          subst he
          go_wp2_with (go_at_call 101; (with_reducible refine (D.out _).mono ?_); rintro e w' ⟨rfl, rfl⟩)
          go_ret
          exact ⟨ret_int ST.out.symm, (Grew.refl _).alloc _ _⟩
        · rw [if_neg he] at st
          have q1 : (h == z) = false := beq_eq_false_iff_ne.2 he
          by_cases hl : h < z
          · rw [if_pos hl] at st
            have ST := Lib.hid st
            clear st he
            go_wp2_with (go_at_call 101; (with_reducible refine (D.out _).mono ?_); rintro e w' ⟨rfl, rfl⟩)
            go_ret
            exact ⟨ret_int ST.out.symm, (Grew.refl _).alloc _ _⟩
          · rw [if_neg hl] at st
            have ST := Lib.hid st
            clear st he
            go_wp2_with (go_at_call 101; (with_reducible refine (D.out _).mono ?_); rintro e w' ⟨rfl, rfl⟩)
            go_round
            case rel => exact ⟨k + 1, h, by omega, by go_num, rfl, by omega, by omega, ST.out.symm⟩
            case measure => simp [intOf]; omega
      · rw [if_pos hd] at st
        have ST := Lib.hid st
        have D := Lib.hid (fun w => calDay_f h (by omega) w)
        clear st hd
        go_wp2_with (go_at_call 101; (with_reducible refine (D.out _).mono ?_); rintro e w' ⟨rfl, rfl⟩)
        go_ret
        exact ⟨ret_int ST.out.symm, (Grew.refl _).alloc _ _⟩
    · have he := HE.out
      rw [List.drop_of_length_le (by omega)] at he
      have ST := Lib.hid he
      clear he HE
      go_wp2
      go_ret
      exact ⟨ret_int ST.out, (Grew.refl _).alloc _ _⟩

theorem calCheck_any (W : Int) (v : Value) (hs : List Int) (w : World) (hr : Reads w v hs) (hwf : ∀ j, j < hs.length → -9223372036854775808 ≤ hs.getD j 0 ∧ hs.getD j 0 ≤ 9223372036854775807) :
    Calls Tryz.prog 50 #[calV W v] w fun e w' => e = .returned (.int .i64 (calE W hs)) ∧ Grew w w' := by
  have hm := hr.len
  by_cases hW : W < 0 ∨ 126 < W
  · rw [calE_w hW]
    obtain ⟨a, cap, rfl, _⟩ := hr
    exact calCheck_w W a _ cap hW w
  · by_cases hl : 60 < hs.length
    · rw [calE_m hW hl]
      obtain ⟨a, cap, rfl, _⟩ := hr
      exact calCheck_m W a _ cap (by omega) (by omega) hl hm w
    · rw [calE_h hW (by omega)]
      rcases hr.cell with ⟨rfl, a, cap, rfl⟩ | ⟨_, b, off, cap, rfl, hc⟩
      · exact calCheck_none W a cap (by omega) (by omega) w
      · exact calCheck_some W b off cap hs (by omega) (by omega) (by omega) w hc hwf

end Go.Proofs.YthaahebggboliaaGreat

-- CalB
namespace Go.Proofs.YthaahebggboliaaGreat
open Go.RowKit
set_option linter.unusedVariables false

theorem Grew.drewN {w w' : World} (h : Grew w w') (n : Nat) : Grew w (w'.drewN n) := by
  induction n generalizing w' with
  | zero => exact h
  | succ n ih => exact (ih h).drew

/-- a day of the weekend -/
def wkB (W n : Int) : Bool := bits BinOp.and IntKind.i64 (W / 2 ^ (n % 7).toNat) 1 == 1
theorem and_one (x : Nat) (h : x ≤ 126) : bits BinOp.and IntKind.i64 (x : Int) 1 = (x : Int) % 2 := by
  have : ∀ y : Fin 127, bits BinOp.and IntKind.i64 ((y.val : Nat) : Int) 1 = ((y.val : Nat) : Int) % 2 := by decide +kernel
  exact this ⟨x, by omega⟩
/-- .. by its bit -/
theorem wk_bit {W n : Int} (h0 : 0 ≤ W) (h1 : W ≤ 126) (hn : 0 ≤ n) : wkB W n = decide (W / 2 ^ (n % 7).toNat % 2 = 1) := by
  unfold wkB
  obtain ⟨x, hx⟩ : ∃ x : Nat, W / 2 ^ (n % 7).toNat = x := ⟨(W / 2 ^ (n % 7).toNat).toNat, by
    have : 0 ≤ W / 2 ^ (n % 7).toNat := Int.ediv_nonneg h0 (Int.le_of_lt (Int.pow_pos (by decide)))
    omega⟩
  have hle : x ≤ 126 := by
    have : W / 2 ^ (n % 7).toNat ≤ W := Int.ediv_le_self _ h0
    omega
  rw [hx, and_one x hle]
  by_cases h : (x : Int) % 2 = 1
  · rw [h]; rfl
  · rw [decide_eq_false h, beq_eq_false_iff_ne.2 h]

theorem isWeekend_any (W n : Int) (a : Option Addr) (l cap : Nat) (h0 : 0 ≤ W) (h1 : W ≤ 126) (n0 : 0 ≤ n) (n1 : n ≤ 3652058) (w : World) :
    Calls Tryz.prog 141 #[calV W (.slice a l cap), .int .i64 n] w fun e w' => e = .returned (.bool (wkB W n)) ∧ Grew w w' := by
  have WK := Lib.hid (fun w => week_ok n n0 n1 w)
  have d0 : 0 ≤ n % 7 := by omega
  have d1 : n % 7 ≤ 6 := by omega
  have E : Hid (wkB W n = (bits BinOp.and IntKind.i64 (W / 2 ^ (n % 7).toNat) 1 == 1)) := rfl
  generalize n % 7 = d at WK d0 d1 E
  go_enter Tryz.func141, Tryz.ntmps141
  go_wp2_with (go_at_call 55; (with_reducible refine (WK.out _).mono ?_); rintro e w' ⟨rfl, rfl⟩)
  go_ret
  exact ⟨ret_bool E.out.symm, (Grew.refl _).alloc _ _⟩

/-- a business day -/
def bizB (W : Int) (hs : List Int) (n : Int) : Bool := !hs.contains n && !wkB W n

theorem search_any (v : Value) (hs : List Int) (n : Int) (w : World) (hr : Reads w v hs) (hl : hs.length ≤ 60) (hp : hs.Pairwise (· ≤ ·)) :
    Calls Tryz.prog 175 #[v, .int .i64 n] w fun e w' => (∃ p : Int, e = .returned (.tuple #[.int .i64 p, .bool (hs.contains n)])) ∧ Grew w w' := by
  rcases hr.cell with ⟨rfl, a, cap, rfl⟩ | ⟨_, b, off, cap, rfl, hc⟩
  · refine (Tryz.slices_BinarySearch_int_empty a cap n w).mono ?_
    rintro e w' ⟨rfl, rfl⟩
    exact ⟨⟨0, rfl⟩, Grew.refl _⟩
  · have h := Tryz.slices_BinarySearch_int b off hs.length cap hs n w (Nat.le_refl _) (by omega) hc (by rw [List.take_length]; exact hp)
    rw [List.take_length] at h
    refine h.mono ?_
    rintro e w' ⟨rfl, q, rfl⟩
    exact ⟨⟨_, rfl⟩, (Grew.refl _).drewN q⟩

set_option maxHeartbeats 400000 in
theorem isBusiness_any (W n : Int) (v : Value) (hs : List Int) (h0 : 0 ≤ W) (h1 : W ≤ 126) (n0 : 0 ≤ n) (n1 : n ≤ 3652058) (w : World) (hr : Reads w v hs) (hl : hs.length ≤ 60) (hp : hs.Pairwise (· ≤ ·)) :
    Calls Tryz.prog 155 #[calV W v, .int .i64 n] w fun e w' => e = .returned (.bool (bizB W hs n)) ∧ Grew w w' := by
  obtain ⟨a, cap, rfl, hm, hc⟩ := id hr
  have SR := Lib.hid (fun w' (g : Grew w w') => search_any _ hs n w' (hr.grew g) hl hp)
  have WD := Lib.hid (fun w => isWeekend_any W n a hs.length cap h0 h1 n0 n1 w)
  have HBZ : Hid (bizB W hs n = (!hs.contains n && !wkB W n)) := rfl
  clear hr hm hc hp
  cases hk : hs.contains n with
  | true =>
    rw [hk] at SR HBZ
    have E : Hid (bizB W hs n = false) := by unfold Hid at HBZ ⊢; rw [HBZ]; rfl
    clear hk HBZ
    go_enter Tryz.func155, Tryz.ntmps155
    go_wp2_with (go_at_call 175; (with_reducible refine (SR.out _ ((Grew.refl _).alloc _ _)).mono ?_); rintro e w1 ⟨⟨p, rfl⟩, g1⟩; have G1 := Lib.hid g1; clear g1)
    go_ret
    exact ⟨ret_bool E.out.symm, gtr ((Grew.refl _).alloc _ _) G1.out⟩
  | false =>
    rw [hk] at SR HBZ
    generalize wkB W n = q at WD HBZ
    have E : Hid (bizB W hs n = !q) := by unfold Hid at HBZ ⊢; rw [HBZ]; cases q <;> rfl
    clear hk HBZ
    go_enter Tryz.func155, Tryz.ntmps155
    go_wp2_with (first
      | (go_at_call 175; (with_reducible refine (SR.out _ ((Grew.refl _).alloc _ _)).mono ?_); rintro e w1 ⟨⟨p, rfl⟩, g1⟩; have cb := g1.cell (p := ⟨w.heap.size, 0, none⟩) (v := .int .i64 W) (by simp) (by simp [go_sem]); have cv := g1.cell (p := ⟨w.heap.size, 1, none⟩) (v := .slice a hs.length cap) (by simp) (by simp [go_sem]); have G1 := Lib.hid g1; clear g1)
      | (go_at_call 141; (with_reducible refine (WD.out _).mono ?_); rintro e w2 ⟨rfl, g2⟩; have G2 := Lib.hid g2; clear g2))
    go_ret
    exact ⟨ret_bool E.out.symm, gtr (gtr ((Grew.refl _).alloc _ _) G1.out) G2.out⟩

end Go.Proofs.YthaahebggboliaaGreat

-- CalC
namespace Go.Proofs.YthaahebggboliaaGreat
open Go.RowKit
set_option linter.unusedVariables false

def dayB (n : Int) : Bool := decide (0 ≤ n ∧ n ≤ 3652058)
theorem day_t {n : Int} (h : dayB n = true) : 0 ≤ n ∧ n ≤ 3652058 := of_decide_eq_true h
theorem day_f {n : Int} (h : dayB n = false) : ¬ (0 ≤ n ∧ n ≤ 3652058) := of_decide_eq_false h
/-- a calendar's holidays fit their kind -/
def Fits (hs : List Int) : Prop := ∀ j, j < hs.length → -9223372036854775808 ≤ hs.getD j 0 ∧ hs.getD j 0 ≤ 9223372036854775807

/-- what is wrong with days -/
def dysE (ns : List Int) : Int := if ns.all dayB then 0 else 3
/-- what is wrong with a calendar and days -/
def daysE (W : Int) (hs ns : List Int) : Int := if calE W hs = 0 then dysE ns else calE W hs

theorem calE_bd (W : Int) (hs : List Int) : 0 ≤ calE W hs ∧ calE W hs ≤ 6 := by
  have hol : ∀ (l : List Int) (b : Int), 0 ≤ holE b l ∧ holE b l ≤ 6 := by
    intro l
    induction l with
    | nil => intro b; exact ⟨Int.le_refl _, (by decide : (0 : Int) ≤ 6)⟩
    | cons h t ih =>
      intro b
      rw [holE]
      split
      · decide
      · split
        · decide
        · split
          · decide
          · exact ih h
  unfold calE
  split
  · decide
  · split
    · decide
    · exact hol hs _

set_option maxRecDepth 100000 in
set_option maxHeartbeats 1000000 in
theorem checkDays_bad (W : Int) (v : Value) (hs : List Int) (u : Value) (w : World) (hr : Reads w v hs) (hf : Fits hs) (hE : calE W hs ≠ 0) :
    Calls Tryz.prog 125 #[calV W v, u] w fun e w' => e = .returned (.int .i64 (calE W hs)) ∧ Grew w w' := by
  obtain ⟨a, cap, rfl, hm, hc⟩ := id hr
  have CK := Lib.hid (fun w' (g : Grew w w') => calCheck_any W _ hs w' (hr.grew g) hf)
  have bd := calE_bd W hs
  generalize calE W hs = x at CK hE bd ⊢
  have q : (x == 0) = false := beq_eq_false_iff_ne.2 hE
  clear hr hm hc hE
  go_enter Tryz.func125, Tryz.ntmps125
  go_wp2_with (go_at_call 50; (with_reducible refine (CK.out _ ((Grew.refl _).alloc _ _)).mono ?_); rintro e w1 ⟨rfl, g1⟩; have G1 := Lib.hid g1; clear g1)
  go_ret
  exact ⟨rfl, gtr ((Grew.refl _).alloc _ _) G1.out⟩

set_option maxRecDepth 100000 in
set_option maxHeartbeats 1000000 in
theorem checkDays_ok (W : Int) (v : Value) (hs ns : List Int) (g off cap2 : Nat) (w : World) (hr : Reads w v hs) (hf : Fits hs) (hE : calE W hs = 0) (hn : ns.length ≤ 100) (hc : ∀ j, j < ns.length → w.cell? ⟨g, off + j, none⟩ = some (.int .i64 (ns.getD j 0))) :
    Calls Tryz.prog 125 #[calV W v, .slice (some ⟨g, off, none⟩) ns.length cap2] w fun e w' => e = .returned (.int .i64 (dysE ns)) ∧ Grew w w' := by
  obtain ⟨a, cap, rfl, hm, _⟩ := id hr
  have CK := Lib.hid (fun w' (g : Grew w w') => calCheck_any W _ hs w' (hr.grew g) hf)
  rw [hE] at CK
  have HC := Lib.hid hc
  clear hr hm hE hc hf
  go_enter Tryz.func125, Tryz.ntmps125
  go_wp2_with (go_at_call 50; (with_reducible refine (CK.out _ ((Grew.refl _).alloc _ _)).mono ?_); rintro e w1 ⟨rfl, g1⟩; have G1 := Lib.hid (gtr ((Grew.refl w).alloc _ _) g1); clear g1)
  go_loop [15] (fun i => ∃ k : Nat, k ≤ ns.length ∧ i = .int .i64 k ∧ Hid (∀ j, j < k → dayB (ns.getD j 0) = true)) (fun i => ns.length - (intOf i).toNat)
  case atStart => exact ⟨0, Nat.zero_le _, rfl, fun _ h => absurd h (Nat.not_lt_zero _)⟩
  case round =>
    obtain ⟨k, hk, rfl, HA⟩ := hrel
    by_cases hlt : k < ns.length
    · have c1 := G1.out.cell (cell_in (HC.out k hlt)) (HC.out k hlt)
      cases hb : dayB (ns.getD k 0) with
      | true =>
        have hb' := day_t hb
        have HB := Lib.hid hb
        clear hb
        generalize hz : ns.getD k 0 = z at c1 hb' HB
        have HZ := Lib.hid hz
        clear hz
        have D := Lib.hid (fun w => calDay_t z hb'.1 hb'.2 w)
        go_wp2_with (go_at_call 101; (with_reducible refine (D.out _).mono ?_); rintro e w' ⟨rfl, rfl⟩)
        go_round
        case rel => exact ⟨k + 1, by omega, by go_num, fun j hj => by
          rcases Nat.lt_succ_iff_lt_or_eq.1 hj with h | h
          · exact HA.out j h
          · rw [h, HZ.out]; exact HB.out⟩
        case measure => simp [intOf]; omega
      | false =>
        have hb' := day_f hb
        have E : Hid (dysE ns = 3) := by
          unfold Hid dysE
          rw [if_neg]
          intro h
          have := List.all_eq_true.1 h (ns.getD k 0) (by rw [List.getD_eq_getElem?_getD, List.getElem?_eq_getElem hlt]; simp)
          rw [hb] at this; cases this
        clear hb
        generalize ns.getD k 0 = z at c1 hb'
        have D := Lib.hid (fun w => calDay_f z (by omega) w)
        clear hb'
        go_wp2_with (go_at_call 101; (with_reducible refine (D.out _).mono ?_); rintro e w' ⟨rfl, rfl⟩)
        go_ret
        exact ⟨ret_int E.out.symm, G1.out⟩
    · have E : Hid (dysE ns = 0) := by
        unfold Hid dysE
        rw [if_pos]
        refine List.all_eq_true.2 fun x hx => ?_
        obtain ⟨j, hj, rfl⟩ := List.getElem_of_mem hx
        have := HA.out j (by omega)
        rwa [List.getD_eq_getElem?_getD, List.getElem?_eq_getElem hj] at this
      go_wp2
      go_ret
      exact ⟨ret_int E.out.symm, G1.out⟩

theorem checkDays_any (W : Int) (v : Value) (hs ns : List Int) (g off cap2 : Nat) (w : World) (hr : Reads w v hs) (hf : Fits hs) (hn : ns.length ≤ 100) (hc : ∀ j, j < ns.length → w.cell? ⟨g, off + j, none⟩ = some (.int .i64 (ns.getD j 0))) :
    Calls Tryz.prog 125 #[calV W v, .slice (some ⟨g, off, none⟩) ns.length cap2] w fun e w' => e = .returned (.int .i64 (daysE W hs ns)) ∧ Grew w w' := by
  by_cases hE : calE W hs = 0
  · have := checkDays_ok W v hs ns g off cap2 w hr hf hE hn hc
    unfold daysE
    rw [if_pos hE]
    exact this
  · have := checkDays_bad W v hs (.slice (some ⟨g, off, none⟩) ns.length cap2) w hr hf hE
    unfold daysE
    rw [if_neg hE]
    exact this

/-- a calendar that is right -/
theorem hol_sorted {b : Int} {hs : List Int} (h : holE b hs = 0) : hs.Pairwise (· ≤ ·) ∧ (∀ x ∈ hs, b ≤ x ∧ 0 ≤ x ∧ x ≤ 3652058) := by
  induction hs generalizing b with
  | nil => exact ⟨List.Pairwise.nil, by simp⟩
  | cons a t ih =>
    rw [holE] at h
    by_cases h1 : 0 ≤ a ∧ a ≤ 3652058
    · rw [if_neg (by omega)] at h
      by_cases h2 : a = b
      · rw [if_pos h2] at h; cases h
      · rw [if_neg h2] at h
        by_cases h3 : a < b
        · rw [if_pos h3] at h; cases h
        · rw [if_neg h3] at h
          obtain ⟨i1, i2⟩ := ih h
          refine ⟨List.pairwise_cons.2 ⟨fun x hx => (i2 x hx).1, i1⟩, fun x hx => ?_⟩
          rcases List.mem_cons.1 hx with rfl | hx
          · exact ⟨by omega, h1⟩
          · have := i2 x hx; exact ⟨by omega, this.2⟩
    · rw [if_pos h1] at h; cases h
theorem cal_right {W : Int} {hs : List Int} (h : calE W hs = 0) : 0 ≤ W ∧ W ≤ 126 ∧ hs.length ≤ 60 ∧ hs.Pairwise (· ≤ ·) := by
  by_cases hW : W < 0 ∨ 126 < W
  · rw [calE_w hW] at h; cases h
  · by_cases hl : 60 < hs.length
    · rw [calE_m hW hl] at h; cases h
    · rw [calE_h hW (by omega)] at h
      exact ⟨by omega, by omega, by omega, (hol_sorted h).1⟩

theorem one_cell (w : World) (n : Int) : ∀ j, j < [n].length → (w.alloc (.cells #[.int .i64 n] 3)).cell? ⟨w.heap.size, 0 + j, none⟩ = some (.int .i64 ([n].getD j 0)) := by
  intro j hj
  obtain rfl : j = 0 := by simpa using hj
  simp [go_sem]
theorem daysE_1 {W : Int} {hs : List Int} {n : Int} (h : daysE W hs [n] = 0) : calE W hs = 0 ∧ 0 ≤ n ∧ n ≤ 3652058 := by
  unfold daysE at h
  by_cases hE : calE W hs = 0
  · rw [if_pos hE] at h
    refine ⟨hE, ?_⟩
    unfold dysE at h
    by_cases hd : [n].all dayB = true
    · exact day_t (by simpa using hd)
    · rw [if_neg hd] at h; cases h
  · rw [if_neg hE] at h; exact absurd h hE

set_option maxRecDepth 100000 in
theorem is_bad (W n : Int) (v : Value) (hs : List Int) (w : World) (hr : Reads w v hs) (hf : Fits hs) (hE : daysE W hs [n] ≠ 0) :
    Calls Tryz.prog 170 #[calV W v, .int .i64 n] w fun e w' => e = .returned (.tuple #[.bool false, .int .i64 (daysE W hs [n])]) ∧ Grew w w' := by
  obtain ⟨a, cap, rfl, hm, hc⟩ := id hr
  have CK : Hid (∀ w', Grew w w' → Calls Tryz.prog 125 #[calV W (.slice a hs.length cap), .slice (some ⟨w'.heap.size, 0, none⟩) 1 1] (w'.alloc (.cells #[.int .i64 n] 3)) fun e w'' => e = .returned (.int .i64 (daysE W hs [n])) ∧ Grew (w'.alloc (.cells #[.int .i64 n] 3)) w'') :=
    fun w' g => checkDays_any W _ hs [n] w'.heap.size 0 1 _ (hr.grew (g.alloc _ _)) hf (by simp) (one_cell w' n)
  generalize daysE W hs [n] = x at CK hE ⊢
  have q : (x == 0) = false := beq_eq_false_iff_ne.2 hE
  clear hr hm hc hE
  go_enter Tryz.func170, Tryz.ntmps170
  have CK2 := CK.out _ ((Grew.refl w).alloc #[.int .i64 W, .slice a hs.length cap] 24)
  rw [World.size_alloc] at CK2
  have HCK := Lib.hid CK2
  clear CK2
  go_wp2_with (go_at_call 125; (with_reducible refine HCK.out.mono ?_); rintro e w1 ⟨rfl, g1⟩; have G1 := Lib.hid g1; clear g1)
  go_ret2
  exact ⟨rfl, gtr (((Grew.refl _).alloc _ _).alloc _ _) G1.out⟩

set_option maxRecDepth 100000 in
set_option maxHeartbeats 1000000 in
theorem is_ok (W n : Int) (v : Value) (hs : List Int) (w : World) (hr : Reads w v hs) (hf : Fits hs) (hE : daysE W hs [n] = 0) :
    Calls Tryz.prog 170 #[calV W v, .int .i64 n] w fun e w' => e = .returned (.tuple #[.bool (bizB W hs n), .int .i64 0]) ∧ Grew w w' := by
  obtain ⟨hE0, n0, n1⟩ := daysE_1 hE
  obtain ⟨h0, h1, hl, hp⟩ := cal_right hE0
  obtain ⟨a, cap, rfl, hm, hc⟩ := id hr
  have CK : Calls Tryz.prog 125 #[calV W (.slice a hs.length cap), .slice (some ⟨w.heap.size + 1, 0, none⟩) 1 1] ((w.alloc (.cells #[.int .i64 W, .slice a hs.length cap] 24)).alloc (.cells #[.int .i64 n] 3)) fun e w' => e = .returned (.int .i64 (daysE W hs [n])) ∧ Grew ((w.alloc (.cells #[.int .i64 W, .slice a hs.length cap] 24)).alloc (.cells #[.int .i64 n] 3)) w' := checkDays_any W (.slice a hs.length cap) hs [n] (w.heap.size + 1) 0 1 ((w.alloc (.cells #[.int .i64 W, .slice a hs.length cap] 24)).alloc (.cells #[.int .i64 n] 3)) (hr.grew (((Grew.refl w).alloc _ _).alloc _ _)) hf (by simp) (by
    have := one_cell (w.alloc (.cells #[.int .i64 W, .slice a hs.length cap] 24)) n
    rw [World.size_alloc] at this
    exact this)
  rw [hE] at CK
  have HCK := Lib.hid CK
  have BZ := Lib.hid (fun w' (g : Grew w w') => isBusiness_any W n _ hs h0 h1 n0 n1 w' (hr.grew g) hl hp)
  clear CK hr hm hc hE hE0 hp hf
  generalize bizB W hs n = q at BZ ⊢
  go_enter Tryz.func170, Tryz.ntmps170
  go_wp2_with (first
    | (go_at_call 125; (with_reducible refine HCK.out.mono ?_); rintro e w1 ⟨rfl, g1⟩; have cb := g1.cell (p := ⟨w.heap.size, 0, none⟩) (v := .int .i64 W) (by simp; omega) (by simp [go_sem]); have cv := g1.cell (p := ⟨w.heap.size, 1, none⟩) (v := .slice a hs.length cap) (by simp; omega) (by simp [go_sem]); have G1 := Lib.hid (gtr (((Grew.refl w).alloc _ _).alloc _ _) g1); clear g1)
    | (go_at_call 155; (with_reducible refine (BZ.out _ G1.out).mono ?_); rintro e w2 ⟨rfl, g2⟩; have G2 := Lib.hid g2; clear g2))
  go_ret2
  exact ⟨rfl, gtr G1.out G2.out⟩

end Go.Proofs.YthaahebggboliaaGreat
