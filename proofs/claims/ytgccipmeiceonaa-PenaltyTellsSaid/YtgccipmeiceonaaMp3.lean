/-
  Merged: CalA, CalB, CalC, CalD.
-/
import Derived.Test.YtgccipmeiceonaaMp0
import Derived.Test.YtgccipmeiceonaaShelf
import Derived.RangeFuncNested
import Derived.RangeFuncBound
import Derived.RangeFuncCalls
import Derived.RangeFuncLeaves
import Derived.RangeFuncFrom
import Derived.Shelf.Abstract
import Derived.Shelf.RegionOpen
import Derived.OwnWalkIn
import Derived.TacticsInMore
import Derived.LoopNIn
import Derived.LoopIn
import Derived.Test.YtgccipmeiceonaaMp2
-- CalA
namespace Go.Proofs.Ytgccipmeiceonaa
open Go.RowKit
set_option linter.unusedVariables false

/-- what is wrong with holidays, behind one that is 'before' -/
def holE (before : Int) : List Int → Int
  | [] => 0
  | h :: t => if ¬ (0 ≤ h ∧ h ≤ 3652058) then 3 else if h = before then 6 else if h < before then 4 else holE h t
/-- what is wrong with a calendar -/
def calE (W : Int) (hs : List Int) : Int := if W < 0 ∨ 126 < W then 3 else if 60 < hs.length then 2 else holE (-1) hs
theorem calE_w {W : Int} {hs : List Int} (h : W < 0 ∨ 126 < W) : calE W hs = 3 := by unfold calE; rw [if_pos h]
theorem calE_m {W : Int} {hs : List Int} (h : ¬ (W < 0 ∨ 126 < W)) (h2 : 60 < hs.length) : calE W hs = 2 := by unfold calE; rw [if_neg h, if_pos h2]
theorem calE_h {W : Int} {hs : List Int} (h : ¬ (W < 0 ∨ 126 < W)) (h2 : hs.length ≤ 60) : calE W hs = holE (-1) hs := by unfold calE; rw [if_neg h, if_neg (by omega)]
theorem holE_step {b : Int} {hs : List Int} {k : Nat} (hk : k < hs.length) : holE b (hs.drop k) = (if ¬ (0 ≤ hs.getD k 0 ∧ hs.getD k 0 ≤ 3652058) then 3 else if hs.getD k 0 = b then 6 else if hs.getD k 0 < b then 4 else holE (hs.getD k 0) (hs.drop (k + 1))) := by
  rw [List.drop_eq_getElem_cons hk, holE, List.getD_eq_getElem?_getD, List.getElem?_eq_getElem hk]; rfl

theorem calDay_t (y : Int) (h1 : 0 ≤ y) (h2 : y ≤ 3652058) (w : World) :
    Calls Try.prog 102 #[.int .i64 y] w fun e w' => e = .returned (.bool true) ∧ w = w' := by
  go_enter Try.func102, Try.ntmps102
  go_wp2
  go_ret
  exact ⟨rfl, rfl⟩
theorem calDay_f (y : Int) (h : y < 0 ∨ 3652058 < y) (w : World) :
    Calls Try.prog 102 #[.int .i64 y] w fun e w' => e = .returned (.bool false) ∧ w = w' := by
  rcases h with h | h
  · go_enter Try.func102, Try.ntmps102
    go_wp2
    go_ret
    exact ⟨rfl, rfl⟩
  · have h' : 0 ≤ y := by omega
    go_enter Try.func102, Try.ntmps102
    go_wp2
    go_ret
    exact ⟨ret_bool (decide_eq_false (by omega)), rfl⟩

/-- a calendar, as it is handed in -/
abbrev calV (W : Int) (v : Value) : Value := .agg #[.int .i64 W, v]

theorem calCheck_w (W : Int) (a : Option Addr) (n cap : Nat) (h : W < 0 ∨ 126 < W) (w : World) :
    Calls Try.prog 52 #[calV W (.slice a n cap)] w fun e w' => e = .returned (.int .i64 3) ∧ Grew w w' := by
  rcases h with h | h
  · go_enter Try.func52, Try.ntmps52
    go_wp2
    go_ret
    exact ⟨rfl, (Grew.refl _).alloc _ _⟩
  · have h' : ¬ W < 0 := by omega
    go_enter Try.func52, Try.ntmps52
    go_wp2
    go_ret
    exact ⟨rfl, (Grew.refl _).alloc _ _⟩
theorem calCheck_m (W : Int) (a : Option Addr) (n cap : Nat) (h0 : 0 ≤ W) (h1 : W ≤ 126) (hn : 60 < n) (hm : n ≤ maxLen) (w : World) :
    Calls Try.prog 52 #[calV W (.slice a n cap)] w fun e w' => e = .returned (.int .i64 2) ∧ Grew w w' := by
  unfold maxLen at hm
  go_enter Try.func52, Try.ntmps52
  go_wp2
  go_ret
  exact ⟨rfl, (Grew.refl _).alloc _ _⟩
theorem calCheck_none (W : Int) (a : Option Addr) (cap : Nat) (h0 : 0 ≤ W) (h1 : W ≤ 126) (w : World) :
    Calls Try.prog 52 #[calV W (.slice a 0 cap)] w fun e w' => e = .returned (.int .i64 0) ∧ Grew w w' := by
  go_enter Try.func52, Try.ntmps52
  go_wp2
  go_loop [3, 21] (fun b i => b = .int .i64 (-1) ∧ i = .int .i64 0) (fun _ _ => 0)
  case atStart => exact ⟨rfl, rfl⟩
  case round =>
    obtain ⟨rfl, rfl⟩ := hrel
    go_wp2
    go_ret
    exact ⟨rfl, (Grew.refl _).alloc _ _⟩

set_option maxRecDepth 100000 in
set_option maxHeartbeats 1000000 in
theorem calCheck_some (W : Int) (b off cap : Nat) (hs : List Int) (h0 : 0 ≤ W) (h1 : W ≤ 126) (hn : hs.length ≤ 60) (w : World) (hc : ∀ j, j < hs.length → w.cell? ⟨b, off + j, none⟩ = some (.int .i64 (hs.getD j 0))) (hwf : ∀ j, j < hs.length → -9223372036854775808 ≤ hs.getD j 0 ∧ hs.getD j 0 ≤ 9223372036854775807) :
    Calls Try.prog 52 #[calV W (.slice (some ⟨b, off, none⟩) hs.length cap)] w fun e w' => e = .returned (.int .i64 (holE (-1) hs)) ∧ Grew w w' := by
  have HC := Lib.hid hc
  have HWF := Lib.hid hwf
  clear hc hwf
  go_enter Try.func52, Try.ntmps52
  go_wp2
  go_loop [3, 21] (fun p i => ∃ (k : Nat) (z : Int), k ≤ hs.length ∧ i = .int .i64 k ∧ p = .int .i64 z ∧ -1 ≤ z ∧ z ≤ 3652058 ∧ Hid (holE z (hs.drop k) = holE (-1) hs)) (fun _ i => hs.length - (intOf i).toNat)
  case atStart => exact ⟨0, -1, Nat.zero_le _, rfl, rfl, by omega, by omega, by unfold Hid; rw [List.drop_zero]⟩
  case round =>
    obtain ⟨k, z, hk, rfl, rfl, z0, z1, HE⟩ := hrel
    by_cases hlt : k < hs.length
    · have c0 := HC.out k hlt
      have c1 : (w.alloc (.cells #[.int .i64 W, .slice (some ⟨b, off, none⟩) hs.length cap] 24)).cell? ⟨b, off + k, none⟩ = some (.int .i64 (hs.getD k 0)) := ((Grew.refl w).alloc _ _).cell (cell_in c0) c0
      have st := holE_step (b := z) hlt
      rw [HE.out] at st
      clear c0
      generalize hs.getD k 0 = h at c1 st
      by_cases hd : 0 ≤ h ∧ h ≤ 3652058
      · rw [if_neg (by omega)] at st
        have D := Lib.hid (fun w => calDay_t h hd.1 hd.2 w)
        obtain ⟨d0, d1⟩ := hd
        by_cases he : h = z
        · rw [if_pos he] at st
          have ST := Lib.hid st
          clear st
          subst he
          go_wp2_with (go_at_call 102; (with_reducible refine (D.out _).mono ?_); rintro e w' ⟨rfl, rfl⟩)
          go_ret
          exact ⟨ret_int ST.out.symm, (Grew.refl _).alloc _ _⟩
        · rw [if_neg he] at st
          have q1 : (h == z) = false := beq_eq_false_iff_ne.2 he
          by_cases hl : h < z
          · rw [if_pos hl] at st
            have ST := Lib.hid st
            clear st he
            go_wp2_with (go_at_call 102; (with_reducible refine (D.out _).mono ?_); rintro e w' ⟨rfl, rfl⟩)
            go_ret
            exact ⟨ret_int ST.out.symm, (Grew.refl _).alloc _ _⟩
          · rw [if_neg hl] at st
            have ST := Lib.hid st
            clear st he
            go_wp2_with (go_at_call 102; (with_reducible refine (D.out _).mono ?_); rintro e w' ⟨rfl, rfl⟩)
            go_round
            case rel => exact ⟨k + 1, h, by omega, by go_num, rfl, by omega, by omega, ST.out.symm⟩
            case measure => simp [intOf]; omega
      · rw [if_pos hd] at st
        have ST := Lib.hid st
        have D := Lib.hid (fun w => calDay_f h (by omega) w)
        clear st hd
        go_wp2_with (go_at_call 102; (with_reducible refine (D.out _).mono ?_); rintro e w' ⟨rfl, rfl⟩)
        go_ret
        exact ⟨ret_int ST.out.symm, (Grew.refl _).alloc _ _⟩
    · have he := HE.out
      rw [List.drop_of_length_le (by omega)] at he
      have ST := Lib.hid he
      clear he HE
      go_wp2
      go_ret
      exact ⟨ret_int ST.out, (Grew.refl _).alloc _ _⟩

theorem calCheck_any (W : Int) (v : Value) (hs : List Int) (w : World) (hr : Reads w v hs) (hwf : ∀ j, j < hs.length → -9223372036854775808 ≤ hs.getD j 0 ∧ hs.getD j 0 ≤ 9223372036854775807) :
    Calls Try.prog 52 #[calV W v] w fun e w' => e = .returned (.int .i64 (calE W hs)) ∧ Grew w w' := by
  have hm := hr.len
  by_cases hW : W < 0 ∨ 126 < W
  · rw [calE_w hW]
    obtain ⟨a, cap, rfl, _⟩ := hr
    exact calCheck_w W a _ cap hW w
  · by_cases hl : 60 < hs.length
    · rw [calE_m hW hl]
      obtain ⟨a, cap, rfl, _⟩ := hr
      exact calCheck_m W a _ cap (by omega) (by omega) hl hm w
    · rw [calE_h hW (by omega)]
      rcases hr.cell with ⟨rfl, a, cap, rfl⟩ | ⟨_, b, off, cap, rfl, hc⟩
      · exact calCheck_none W a cap (by omega) (by omega) w
      · exact calCheck_some W b off cap hs (by omega) (by omega) (by omega) w hc hwf

end Go.Proofs.Ytgccipmeiceonaa

-- CalB
namespace Go.Proofs.Ytgccipmeiceonaa
open Go.RowKit
set_option linter.unusedVariables false

theorem Grew.drewN {w w' : World} (h : Grew w w') (n : Nat) : Grew w (w'.drewN n) := by
  induction n generalizing w' with
  | zero => exact h
  | succ n ih => exact (ih h).drew

/-- a day of the weekend -/
def wkB (W n : Int) : Bool := bits BinOp.and IntKind.i64 (W / 2 ^ (n % 7).toNat) 1 == 1
theorem and_one (x : Nat) (h : x ≤ 126) : bits BinOp.and IntKind.i64 (x : Int) 1 = (x : Int) % 2 := by
  have : ∀ y : Fin 127, bits BinOp.and IntKind.i64 ((y.val : Nat) : Int) 1 = ((y.val : Nat) : Int) % 2 := by decide +kernel
  exact this ⟨x, by omega⟩
/-- .. by its bit -/
theorem wk_bit {W n : Int} (h0 : 0 ≤ W) (h1 : W ≤ 126) (hn : 0 ≤ n) : wkB W n = decide (W / 2 ^ (n % 7).toNat % 2 = 1) := by
  unfold wkB
  obtain ⟨x, hx⟩ : ∃ x : Nat, W / 2 ^ (n % 7).toNat = x := ⟨(W / 2 ^ (n % 7).toNat).toNat, by
    have : 0 ≤ W / 2 ^ (n % 7).toNat := Int.ediv_nonneg h0 (Int.le_of_lt (Int.pow_pos (by decide)))
    omega⟩
  have hle : x ≤ 126 := by
    have : W / 2 ^ (n % 7).toNat ≤ W := Int.ediv_le_self _ h0
    omega
  rw [hx, and_one x hle]
  by_cases h : (x : Int) % 2 = 1
  · rw [h]; rfl
  · rw [decide_eq_false h, beq_eq_false_iff_ne.2 h]

theorem isWeekend_any (W n : Int) (a : Option Addr) (l cap : Nat) (h0 : 0 ≤ W) (h1 : W ≤ 126) (n0 : 0 ≤ n) (n1 : n ≤ 3652058) (w : World) :
    Calls Try.prog 145 #[calV W (.slice a l cap), .int .i64 n] w fun e w' => e = .returned (.bool (wkB W n)) ∧ Grew w w' := by
  have WK := Lib.hid (fun w => week_ok n n0 n1 w)
  have d0 : 0 ≤ n % 7 := by omega
  have d1 : n % 7 ≤ 6 := by omega
  have E : Hid (wkB W n = (bits BinOp.and IntKind.i64 (W / 2 ^ (n % 7).toNat) 1 == 1)) := rfl
  generalize n % 7 = d at WK d0 d1 E
  go_enter Try.func145, Try.ntmps145
  go_wp2_with (go_at_call 143; (with_reducible refine (WK.out _).mono ?_); rintro e w' ⟨rfl, rfl⟩)
  go_ret
  exact ⟨ret_bool E.out.symm, (Grew.refl _).alloc _ _⟩

/-- a business day -/
def bizB (W : Int) (hs : List Int) (n : Int) : Bool := !hs.contains n && !wkB W n

theorem search_any (v : Value) (hs : List Int) (n : Int) (w : World) (hr : Reads w v hs) (hl : hs.length ≤ 60) (hp : hs.Pairwise (· ≤ ·)) :
    Calls Try.prog 144 #[v, .int .i64 n] w fun e w' => (∃ p : Int, e = .returned (.tuple #[.int .i64 p, .bool (hs.contains n)])) ∧ Grew w w' := by
  rcases hr.cell with ⟨rfl, a, cap, rfl⟩ | ⟨_, b, off, cap, rfl, hc⟩
  · refine (Try.slices_BinarySearch_int_empty a cap n w).mono ?_
    rintro e w' ⟨rfl, rfl⟩
    exact ⟨⟨0, rfl⟩, Grew.refl _⟩
  · have h := Try.slices_BinarySearch_int b off hs.length cap hs n w (Nat.le_refl _) (by omega) hc (by rw [List.take_length]; exact hp)
    rw [List.take_length] at h
    refine h.mono ?_
    rintro e w' ⟨rfl, q, rfl⟩
    exact ⟨⟨_, rfl⟩, (Grew.refl _).drewN q⟩

set_option maxHeartbeats 400000 in
theorem isBusiness_any (W n : Int) (v : Value) (hs : List Int) (h0 : 0 ≤ W) (h1 : W ≤ 126) (n0 : 0 ≤ n) (n1 : n ≤ 3652058) (w : World) (hr : Reads w v hs) (hl : hs.length ≤ 60) (hp : hs.Pairwise (· ≤ ·)) :
    Calls Try.prog 132 #[calV W v, .int .i64 n] w fun e w' => e = .returned (.bool (bizB W hs n)) ∧ Grew w w' := by
  obtain ⟨a, cap, rfl, hm, hc⟩ := id hr
  have SR := Lib.hid (fun w' (g : Grew w w') => search_any _ hs n w' (hr.grew g) hl hp)
  have WD := Lib.hid (fun w => isWeekend_any W n a hs.length cap h0 h1 n0 n1 w)
  have HBZ : Hid (bizB W hs n = (!hs.contains n && !wkB W n)) := rfl
  clear hr hm hc hp
  cases hk : hs.contains n with
  | true =>
    rw [hk] at SR HBZ
    have E : Hid (bizB W hs n = false) := by unfold Hid at HBZ ⊢; rw [HBZ]; rfl
    clear hk HBZ
    go_enter Try.func132, Try.ntmps132
    go_wp2_with (go_at_call 144; (with_reducible refine (SR.out _ ((Grew.refl _).alloc _ _)).mono ?_); rintro e w1 ⟨⟨p, rfl⟩, g1⟩; have G1 := Lib.hid g1; clear g1)
    go_ret
    exact ⟨ret_bool E.out.symm, gtr ((Grew.refl _).alloc _ _) G1.out⟩
  | false =>
    rw [hk] at SR HBZ
    generalize wkB W n = q at WD HBZ
    have E : Hid (bizB W hs n = !q) := by unfold Hid at HBZ ⊢; rw [HBZ]; cases q <;> rfl
    clear hk HBZ
    go_enter Try.func132, Try.ntmps132
    go_wp2_with (first
      | (go_at_call 144; (with_reducible refine (SR.out _ ((Grew.refl _).alloc _ _)).mono ?_); rintro e w1 ⟨⟨p, rfl⟩, g1⟩; have cb := g1.cell (p := ⟨w.heap.size, 0, none⟩) (v := .int .i64 W) (by simp) (by simp [go_sem]); have cv := g1.cell (p := ⟨w.heap.size, 1, none⟩) (v := .slice a hs.length cap) (by simp) (by simp [go_sem]); have G1 := Lib.hid g1; clear g1)
      | (go_at_call 145; (with_reducible refine (WD.out _).mono ?_); rintro e w2 ⟨rfl, g2⟩; have G2 := Lib.hid g2; clear g2))
    go_ret
    exact ⟨ret_bool E.out.symm, gtr (gtr ((Grew.refl _).alloc _ _) G1.out) G2.out⟩

end Go.Proofs.Ytgccipmeiceonaa

-- CalC
namespace Go.Proofs.Ytgccipmeiceonaa
open Go.RowKit
set_option linter.unusedVariables false

def dayB (n : Int) : Bool := decide (0 ≤ n ∧ n ≤ 3652058)
theorem day_t {n : Int} (h : dayB n = true) : 0 ≤ n ∧ n ≤ 3652058 := of_decide_eq_true h
theorem day_f {n : Int} (h : dayB n = false) : ¬ (0 ≤ n ∧ n ≤ 3652058) := of_decide_eq_false h
/-- a calendar's holidays fit their kind -/
def Fits (hs : List Int) : Prop := ∀ j, j < hs.length → -9223372036854775808 ≤ hs.getD j 0 ∧ hs.getD j 0 ≤ 9223372036854775807

/-- what is wrong with days -/
def dysE (ns : List Int) : Int := if ns.all dayB then 0 else 3
/-- what is wrong with a calendar and days -/
def daysE (W : Int) (hs ns : List Int) : Int := if calE W hs = 0 then dysE ns else calE W hs

theorem calE_bd (W : Int) (hs : List Int) : 0 ≤ calE W hs ∧ calE W hs ≤ 6 := by
  have hol : ∀ (l : List Int) (b : Int), 0 ≤ holE b l ∧ holE b l ≤ 6 := by
    intro l
    induction l with
    | nil => intro b; exact ⟨Int.le_refl _, (by decide : (0 : Int) ≤ 6)⟩
    | cons h t ih =>
      intro b
      rw [holE]
      split
      · decide
      · split
        · decide
        · split
          · decide
          · exact ih h
  unfold calE
  split
  · decide
  · split
    · decide
    · exact hol hs _

set_option maxRecDepth 100000 in
set_option maxHeartbeats 1000000 in
theorem checkDays_bad (W : Int) (v : Value) (hs : List Int) (u : Value) (w : World) (hr : Reads w v hs) (hf : Fits hs) (hE : calE W hs ≠ 0) :
    Calls Try.prog 131 #[calV W v, u] w fun e w' => e = .returned (.int .i64 (calE W hs)) ∧ Grew w w' := by
  obtain ⟨a, cap, rfl, hm, hc⟩ := id hr
  have CK := Lib.hid (fun w' (g : Grew w w') => calCheck_any W _ hs w' (hr.grew g) hf)
  have bd := calE_bd W hs
  generalize calE W hs = x at CK hE bd ⊢
  have q : (x == 0) = false := beq_eq_false_iff_ne.2 hE
  clear hr hm hc hE
  go_enter Try.func131, Try.ntmps131
  go_wp2_with (go_at_call 52; (with_reducible refine (CK.out _ ((Grew.refl _).alloc _ _)).mono ?_); rintro e w1 ⟨rfl, g1⟩; have G1 := Lib.hid g1; clear g1)
  go_ret
  exact ⟨rfl, gtr ((Grew.refl _).alloc _ _) G1.out⟩

set_option maxRecDepth 100000 in
set_option maxHeartbeats 1000000 in
theorem checkDays_ok (W : Int) (v : Value) (hs ns : List Int) (g off cap2 : Nat) (w : World) (hr : Reads w v hs) (hf : Fits hs) (hE : calE W hs = 0) (hn : ns.length ≤ 100) (hc : ∀ j, j < ns.length → w.cell? ⟨g, off + j, none⟩ = some (.int .i64 (ns.getD j 0))) :
    Calls Try.prog 131 #[calV W v, .slice (some ⟨g, off, none⟩) ns.length cap2] w fun e w' => e = .returned (.int .i64 (dysE ns)) ∧ Grew w w' := by
  obtain ⟨a, cap, rfl, hm, _⟩ := id hr
  have CK := Lib.hid (fun w' (g : Grew w w') => calCheck_any W _ hs w' (hr.grew g) hf)
  rw [hE] at CK
  have HC := Lib.hid hc
  clear hr hm hE hc hf
  go_enter Try.func131, Try.ntmps131
  go_wp2_with (go_at_call 52; (with_reducible refine (CK.out _ ((Grew.refl _).alloc _ _)).mono ?_); rintro e w1 ⟨rfl, g1⟩; have G1 := Lib.hid (gtr ((Grew.refl w).alloc _ _) g1); clear g1)
  go_loop [15] (fun i => ∃ k : Nat, k ≤ ns.length ∧ i = .int .i64 k ∧ Hid (∀ j, j < k → dayB (ns.getD j 0) = true)) (fun i => ns.length - (intOf i).toNat)
  case atStart => exact ⟨0, Nat.zero_le _, rfl, fun _ h => absurd h (Nat.not_lt_zero _)⟩
  case round =>
    obtain ⟨k, hk, rfl, HA⟩ := hrel
    by_cases hlt : k < ns.length
    · have c1 := G1.out.cell (cell_in (HC.out k hlt)) (HC.out k hlt)
      cases hb : dayB (ns.getD k 0) with
      | true =>
        have hb' := day_t hb
        have HB := Lib.hid hb
        clear hb
        generalize hz : ns.getD k 0 = z at c1 hb' HB
        have HZ := Lib.hid hz
        clear hz
        have D := Lib.hid (fun w => calDay_t z hb'.1 hb'.2 w)
        go_wp2_with (go_at_call 102; (with_reducible refine (D.out _).mono ?_); rintro e w' ⟨rfl, rfl⟩)
        go_round
        case rel => exact ⟨k + 1, by omega, by go_num, fun j hj => by
          rcases Nat.lt_succ_iff_lt_or_eq.1 hj with h | h
          · exact HA.out j h
          · rw [h, HZ.out]; exact HB.out⟩
        case measure => simp [intOf]; omega
      | false =>
        have hb' := day_f hb
        have E : Hid (dysE ns = 3) := by
          unfold Hid dysE
          rw [if_neg]
          intro h
          have := List.all_eq_true.1 h (ns.getD k 0) (by rw [List.getD_eq_getElem?_getD, List.getElem?_eq_getElem hlt]; simp)
          rw [hb] at this; cases this
        clear hb
        generalize ns.getD k 0 = z at c1 hb'
        have D := Lib.hid (fun w => calDay_f z (by omega) w)
        clear hb'
        go_wp2_with (go_at_call 102; (with_reducible refine (D.out _).mono ?_); rintro e w' ⟨rfl, rfl⟩)
        go_ret
        exact ⟨ret_int E.out.symm, G1.out⟩
    · have E : Hid (dysE ns = 0) := by
        unfold Hid dysE
        rw [if_pos]
        refine List.all_eq_true.2 fun x hx => ?_
        obtain ⟨j, hj, rfl⟩ := List.getElem_of_mem hx
        have := HA.out j (by omega)
        rwa [List.getD_eq_getElem?_getD, List.getElem?_eq_getElem hj] at this
      go_wp2
      go_ret
      exact ⟨ret_int E.out.symm, G1.out⟩

theorem checkDays_any (W : Int) (v : Value) (hs ns : List Int) (g off cap2 : Nat) (w : World) (hr : Reads w v hs) (hf : Fits hs) (hn : ns.length ≤ 100) (hc : ∀ j, j < ns.length → w.cell? ⟨g, off + j, none⟩ = some (.int .i64 (ns.getD j 0))) :
    Calls Try.prog 131 #[calV W v, .slice (some ⟨g, off, none⟩) ns.length cap2] w fun e w' => e = .returned (.int .i64 (daysE W hs ns)) ∧ Grew w w' := by
  by_cases hE : calE W hs = 0
  · have := checkDays_ok W v hs ns g off cap2 w hr hf hE hn hc
    unfold daysE
    rw [if_pos hE]
    exact this
  · have := checkDays_bad W v hs (.slice (some ⟨g, off, none⟩) ns.length cap2) w hr hf hE
    unfold daysE
    rw [if_neg hE]
    exact this

/-- a calendar that is right -/
theorem hol_sorted {b : Int} {hs : List Int} (h : holE b hs = 0) : hs.Pairwise (· ≤ ·) ∧ (∀ x ∈ hs, b ≤ x ∧ 0 ≤ x ∧ x ≤ 3652058) := by
  induction hs generalizing b with
  | nil => exact ⟨List.Pairwise.nil, by simp⟩
  | cons a t ih =>
    rw [holE] at h
    by_cases h1 : 0 ≤ a ∧ a ≤ 3652058
    · rw [if_neg (by omega)] at h
      by_cases h2 : a = b
      · rw [if_pos h2] at h; cases h
      · rw [if_neg h2] at h
        by_cases h3 : a < b
        · rw [if_pos h3] at h; cases h
        · rw [if_neg h3] at h
          obtain ⟨i1, i2⟩ := ih h
          refine ⟨List.pairwise_cons.2 ⟨fun x hx => (i2 x hx).1, i1⟩, fun x hx => ?_⟩
          rcases List.mem_cons.1 hx with rfl | hx
          · exact ⟨by omega, h1⟩
          · have := i2 x hx; exact ⟨by omega, this.2⟩
    · rw [if_pos h1] at h; cases h
theorem cal_right {W : Int} {hs : List Int} (h : calE W hs = 0) : 0 ≤ W ∧ W ≤ 126 ∧ hs.length ≤ 60 ∧ hs.Pairwise (· ≤ ·) := by
  by_cases hW : W < 0 ∨ 126 < W
  · rw [calE_w hW] at h; cases h
  · by_cases hl : 60 < hs.length
    · rw [calE_m hW hl] at h; cases h
    · rw [calE_h hW (by omega)] at h
      exact ⟨by omega, by omega, by omega, (hol_sorted h).1⟩

theorem one_cell (w : World) (n : Int) : ∀ j, j < [n].length → (w.alloc (.cells #[.int .i64 n] 3)).cell? ⟨w.heap.size, 0 + j, none⟩ = some (.int .i64 ([n].getD j 0)) := by
  intro j hj
  obtain rfl : j = 0 := by simpa using hj
  simp [go_sem]
theorem daysE_1 {W : Int} {hs : List Int} {n : Int} (h : daysE W hs [n] = 0) : calE W hs = 0 ∧ 0 ≤ n ∧ n ≤ 3652058 := by
  unfold daysE at h
  by_cases hE : calE W hs = 0
  · rw [if_pos hE] at h
    refine ⟨hE, ?_⟩
    unfold dysE at h
    by_cases hd : [n].all dayB = true
    · exact day_t (by simpa using hd)
    · rw [if_neg hd] at h; cases h
  · rw [if_neg hE] at h; exact absurd h hE

set_option maxRecDepth 100000 in
theorem is_bad (W n : Int) (v : Value) (hs : List Int) (w : World) (hr : Reads w v hs) (hf : Fits hs) (hE : daysE W hs [n] ≠ 0) :
    Calls Try.prog 105 #[calV W v, .int .i64 n] w fun e w' => e = .returned (.tuple #[.bool false, .int .i64 (daysE W hs [n])]) ∧ Grew w w' := by
  obtain ⟨a, cap, rfl, hm, hc⟩ := id hr
  have CK : Hid (∀ w', Grew w w' → Calls Try.prog 131 #[calV W (.slice a hs.length cap), .slice (some ⟨w'.heap.size, 0, none⟩) 1 1] (w'.alloc (.cells #[.int .i64 n] 3)) fun e w'' => e = .returned (.int .i64 (daysE W hs [n])) ∧ Grew (w'.alloc (.cells #[.int .i64 n] 3)) w'') :=
    fun w' g => checkDays_any W _ hs [n] w'.heap.size 0 1 _ (hr.grew (g.alloc _ _)) hf (by simp) (one_cell w' n)
  generalize daysE W hs [n] = x at CK hE ⊢
  have q : (x == 0) = false := beq_eq_false_iff_ne.2 hE
  clear hr hm hc hE
  go_enter Try.func105, Try.ntmps105
  have CK2 := CK.out _ ((Grew.refl w).alloc #[.int .i64 W, .slice a hs.length cap] 24)
  rw [World.size_alloc] at CK2
  have HCK := Lib.hid CK2
  clear CK2
  go_wp2_with (go_at_call 131; (with_reducible refine HCK.out.mono ?_); rintro e w1 ⟨rfl, g1⟩; have G1 := Lib.hid g1; clear g1)
  go_ret2
  exact ⟨rfl, gtr (((Grew.refl _).alloc _ _).alloc _ _) G1.out⟩

set_option maxRecDepth 100000 in
set_option maxHeartbeats 1000000 in
theorem is_ok (W n : Int) (v : Value) (hs : List Int) (w : World) (hr : Reads w v hs) (hf : Fits hs) (hE : daysE W hs [n] = 0) :
    Calls Try.prog 105 #[calV W v, .int .i64 n] w fun e w' => e = .returned (.tuple #[.bool (bizB W hs n), .int .i64 0]) ∧ Grew w w' := by
  obtain ⟨hE0, n0, n1⟩ := daysE_1 hE
  obtain ⟨h0, h1, hl, hp⟩ := cal_right hE0
  obtain ⟨a, cap, rfl, hm, hc⟩ := id hr
  have CK : Calls Try.prog 131 #[calV W (.slice a hs.length cap), .slice (some ⟨w.heap.size + 1, 0, none⟩) 1 1] ((w.alloc (.cells #[.int .i64 W, .slice a hs.length cap] 24)).alloc (.cells #[.int .i64 n] 3)) fun e w' => e = .returned (.int .i64 (daysE W hs [n])) ∧ Grew ((w.alloc (.cells #[.int .i64 W, .slice a hs.length cap] 24)).alloc (.cells #[.int .i64 n] 3)) w' := checkDays_any W (.slice a hs.length cap) hs [n] (w.heap.size + 1) 0 1 ((w.alloc (.cells #[.int .i64 W, .slice a hs.length cap] 24)).alloc (.cells #[.int .i64 n] 3)) (hr.grew (((Grew.refl w).alloc _ _).alloc _ _)) hf (by simp) (by
    have := one_cell (w.alloc (.cells #[.int .i64 W, .slice a hs.length cap] 24)) n
    rw [World.size_alloc] at this
    exact this)
  rw [hE] at CK
  have HCK := Lib.hid CK
  have BZ := Lib.hid (fun w' (g : Grew w w') => isBusiness_any W n _ hs h0 h1 n0 n1 w' (hr.grew g) hl hp)
  clear CK hr hm hc hE hE0 hp hf
  generalize bizB W hs n = q at BZ ⊢
  go_enter Try.func105, Try.ntmps105
  go_wp2_with (first
    | (go_at_call 131; (with_reducible refine HCK.out.mono ?_); rintro e w1 ⟨rfl, g1⟩; have cb := g1.cell (p := ⟨w.heap.size, 0, none⟩) (v := .int .i64 W) (by simp; omega) (by simp [go_sem]); have cv := g1.cell (p := ⟨w.heap.size, 1, none⟩) (v := .slice a hs.length cap) (by simp; omega) (by simp [go_sem]); have G1 := Lib.hid (gtr (((Grew.refl w).alloc _ _).alloc _ _) g1); clear g1)
    | (go_at_call 132; (with_reducible refine (BZ.out _ G1.out).mono ?_); rintro e w2 ⟨rfl, g2⟩; have G2 := Lib.hid g2; clear g2))
  go_ret2
  exact ⟨rfl, gtr G1.out G2.out⟩

end Go.Proofs.Ytgccipmeiceonaa

-- CalD
namespace Go.Proofs.Ytgccipmeiceonaa
open Go.RowKit Go.Shelf
set_option linter.unusedVariables false
attribute [local go_sem] Oper.semAt_some

/-- those of the first k days, in a direction, that are business days -/
def vis (β : Int → Bool) (start dir : Int) (k : Nat) : List Int := ((List.range k).map fun j : Nat => start + dir * (j : Int)).filter β
theorem vis_t {β : Int → Bool} {start dir : Int} {k : Nat} (h : β (start + dir * (k : Int)) = true) : vis β start dir (k + 1) = vis β start dir k ++ [start + dir * (k : Int)] := by
  unfold vis; rw [List.range_succ, List.map_append, List.filter_append]; simp [h]
theorem vis_f {β : Int → Bool} {start dir : Int} {k : Nat} (h : β (start + dir * (k : Int)) = false) : vis β start dir (k + 1) = vis β start dir k := by
  unfold vis; rw [List.range_succ, List.map_append, List.filter_append]; simp [h]
theorem vis_len (β : Int → Bool) (start dir : Int) (k : Nat) : (vis β start dir k).length ≤ k := by
  unfold vis; refine Nat.le_trans (List.length_filter_le _ _) ?_; simp
theorem vis_pre (β : Int → Bool) (start dir : Int) {k T : Nat} (h : k ≤ T) : vis β start dir k <+: vis β start dir T := by
  induction T with
  | zero => obtain rfl : k = 0 := by omega
            exact List.prefix_refl _
  | succ T ih =>
    by_cases e : k = T + 1
    · rw [e]; exact List.prefix_refl _
    · refine (ih (by omega)).trans ?_
      cases hb : β (start + dir * (T : Int)) with
      | true => rw [vis_t hb]; exact List.prefix_append _ _
      | false => rw [vis_f hb]; exact List.prefix_refl _

/-- T days lie in a direction -/
structure Far (start dir : Int) (T : Nat) : Prop where
  dirs : dir = 1 ∨ dir = -1
  inn : ∀ k : Nat, k < T → 0 ≤ start + dir * (k : Int) ∧ start + dir * (k : Int) ≤ 3652058
  out : start + dir * (T : Int) < 0 ∨ 3652058 < start + dir * (T : Int)
  low : -1 ≤ start + dir * (T : Int) ∧ start + dir * (T : Int) ≤ 3652059

/-- what the closure of business has captured -/
structure Held (w : World) (W : Int) (v : Value) (hs : List Int) (start dir : Int) (b4 b5 b3 : Nat) : Prop where
  c4 : w.cell? ⟨b4, 0, none⟩ = some (.int .i64 start)
  c5 : w.cell? ⟨b5, 0, none⟩ = some (.int .i64 dir)
  c30 : w.cell? ⟨b3, 0, none⟩ = some (.int .i64 W)
  c31 : w.cell? ⟨b3, 1, none⟩ = some v
  rd : Reads w v hs
theorem Held.kpt {w w' : World} {W : Int} {v : Value} {hs : List Int} {start dir : Int} {b4 b5 b3 : Nat} (h : Held w W v hs start dir b4 b5 b3) (g : Kpt w w') : Held w' W v hs start dir b4 b5 b3 :=
  ⟨g.cell h.c4, g.cell h.c5, g.cell h.c30, g.cell h.c31, h.rd.kpt g⟩

set_option maxRecDepth 100000 in
set_option maxHeartbeats 2000000 in
theorem bizIter_in (n : Nat) (hn : 1 ≤ n) (l : Nat) (w0 : World) (W : Int) (a : Option Addr) (cap : Nat) (hs : List Int) (start dir : Int) (T : Nat) (b4 b5 b3 : Nat) (hE : calE W hs = 0) (hF : Far start dir T) (hH : Held w0 W (.slice a hs.length cap) hs start dir b4 b5 b3)
    (J Jx : List Int → World → Prop) (W0 : World) (hJ : AbidesFrom W0.heap.size J) (g0 : Kpt w0 W0)
    (hY : ∀ pre x W1, J pre W1 → pre.length < T → YieldAt Fence.wide (n - 1) Try.prog l #[.int .i64 x] W1 fun e W' =>
      (e = .returned (.bool true) ∧ J (pre ++ [x]) W' ∧ Below w0.heap.size W1 W') ∨ (e = .returned (.bool false) ∧ Jx (pre ++ [x]) W'))
    (h0 : J [] W0) :
    CallsIn Fence.wide n Try.prog 173 #[.func (.yield l) #[] #[], .pointer (some ⟨b4, 0, none⟩), .pointer (some ⟨b5, 0, none⟩), .pointer (some ⟨b3, 0, none⟩)] W0 fun e W' => (∃ v, e = .returned v) ∧
      ((∃ ys, ys = vis (bizB W hs) start dir T ∧ J ys W') ∨ (∃ pre, pre <+: vis (bizB W hs) start dir T ∧ Jx pre W')) := by
  obtain ⟨h0', h1', hl, hp⟩ := cal_right hE
  obtain ⟨fd, fi, fo, fl⟩ := hF
  have c4 := g0.cell hH.c4
  have HH := Lib.hid hH
  have G0 := Lib.hid g0
  have HJ := Lib.hid hJ
  have HY := Lib.hid hY
  have FI := Lib.hid fi
  have FD := Lib.hid fd
  have FO := Lib.hid fo
  have hd : -1 ≤ dir ∧ dir ≤ 1 := by rcases fd with h | h <;> omega
  obtain ⟨hd0, hd1⟩ := hd
  have FL := Lib.hid fl
  clear hE hH g0 hJ hY fi fd fo fl
  refine callsIn_of_wp Try.func173 rfl trivial ?_ rfl
  simp only [Try.ntmps173, List.size_toArray, List.length_cons, List.length_nil, Nat.reduceAdd, Nat.reduceSub, Array.replicate_succ, Array.replicate_zero, List.push_toArray, List.append_toArray, List.nil_append, List.cons_append]
  gi_wp2
  clear c4
  gi_loopw [5] (fun i wr => ∃ (k : Nat) (x : Int), i = .int .i64 x ∧ Hid (x = start + dir * (k : Int)) ∧ k ≤ T ∧ -1 ≤ x ∧ x ≤ 3652059 ∧ Hid (J (vis (bizB W hs) start dir k) wr) ∧ Hid (Below w0.heap.size w0 wr)) (fun i _ => (dir * (start + dir * (T : Int) - intOf i)).toNat)
  case atStart =>
    refine ⟨0, start, rfl, by unfold Hid; simp, Nat.zero_le _, ?_, ?_, h0, G0.out⟩
    · by_cases hT : 0 < T
      · have := FI.out 0 hT; simp at this; omega
      · obtain rfl : T = 0 := by omega
        have := FL.out; simp at this; omega
    · by_cases hT : 0 < T
      · have := FI.out 0 hT; simp at this; omega
      · obtain rfl : T = 0 := by omega
        have := FL.out; simp at this; omega
  case round =>
    obtain ⟨k, x, rfl, HX, hk, x0, x1, HJs, HB⟩ := hrel
    have held := HH.out.kpt (w' := wr) HB.out
    have c5 := held.c5
    have c30 := held.c30
    have c31 := held.c31
    by_cases hlt : k < T
    · have inn := FI.out k hlt
      rw [← HX.out] at inn
      obtain ⟨n0, n1⟩ := inn
      have D := Lib.hid (fun w => calDay_t x n0 n1 w)
      have BZ := Lib.hid (isBusiness_any W x _ hs h0' h1' n0 n1 wr held.rd hl hp)
      clear held
      have hlen : (vis (bizB W hs) start dir k).length < T := Nat.lt_of_le_of_lt (vis_len _ _ _ _) hlt
      cases hb : bizB W hs x with
      | true =>
        rw [hb] at BZ
        have HV : Hid (vis (bizB W hs) start dir (k + 1) = vis (bizB W hs) start dir k ++ [x]) := by
          unfold Hid; rw [HX.out]; exact vis_t (by rw [← HX.out]; exact hb)
        clear hb
        gi_wp2_with (first
          | (refine ⟨trivial, ?_⟩; gi_at_call 102; refine (callsIn_wide.2 (D.out _)).mono ?_; rintro e w' ⟨rfl, rfl⟩)
          | (refine ⟨trivial, ?_⟩; gi_at_call 132; refine (callsIn_wide.2 BZ.out).mono ?_; rintro e w2 ⟨rfl, g2⟩; have G2 := Lib.hid g2; clear g2; obtain ⟨fn, tmps, assign, body, hy, hR⟩ := HY.out _ x w2 (HJ.out _ wr w2 none HJs.out G2.out.grownBy (fun r e => by cases e)) hlen; have HR := Lib.hid hR; clear hR))
        refine HR.out.mono ?_
        rintro e W3 (⟨rfl, hJ3, hk3⟩ | ⟨rfl, hJx3⟩)
        · have c53 : W3.cell? ⟨b5, 0, none⟩ = some (.int .i64 dir) := (Kpt.cell (w := w0) (w' := W3) (HB.out.trans ((G2.out.below.mono HB.out.size).trans hk3)) HH.out.c5)
          gi_wp2
          go_roundw
          case rel => exact ⟨k + 1, x + dir, rfl, by unfold Hid; have := HX.out; rw [this]; rcases FD.out with h | h <;> rw [h] <;> omega, by omega, by omega, by omega, by rw [HV.out]; exact hJ3, HB.out.trans ((G2.out.below.mono HB.out.size).trans hk3)⟩
          case measure => have := HX.out; simp [intOf]; rcases FD.out with h | h <;> subst h <;> omega
        · gi_wp2
          refine bodyPost_ret (results_none rfl _ _ _) rfl ?_
          exact ⟨⟨_, rfl⟩, .inr ⟨_, by rw [← HV.out]; exact vis_pre _ _ _ hlt, hJx3⟩⟩
      | false =>
        rw [hb] at BZ
        have HV : Hid (vis (bizB W hs) start dir (k + 1) = vis (bizB W hs) start dir k) := by
          unfold Hid; exact vis_f (by rw [← HX.out]; exact hb)
        clear hb
        gi_wp2_with (first
          | (refine ⟨trivial, ?_⟩; gi_at_call 102; refine (callsIn_wide.2 (D.out _)).mono ?_; rintro e w' ⟨rfl, rfl⟩)
          | (refine ⟨trivial, ?_⟩; gi_at_call 132; refine (callsIn_wide.2 BZ.out).mono ?_; rintro e w2 ⟨rfl, g2⟩; have G2 := Lib.hid g2; clear g2; have c53 : w2.cell? ⟨b5, 0, none⟩ = some (.int .i64 dir) := (Kpt.cell (w := w0) (w' := w2) (HB.out.trans (G2.out.below.mono HB.out.size)) HH.out.c5)))
        refine ⟨fun _ h => (by cases h), ?_⟩
        gi_wp2
        go_roundw
        case rel => exact ⟨k + 1, x + dir, rfl, by unfold Hid; have := HX.out; rw [this]; rcases FD.out with h | h <;> rw [h] <;> omega, by omega, by omega, by omega, by rw [HV.out]; exact HJ.out _ wr w2 none HJs.out G2.out.grownBy (fun r e => by cases e), HB.out.trans (G2.out.below.mono HB.out.size)⟩
        case measure => have := HX.out; simp [intOf]; rcases FD.out with h | h <;> subst h <;> omega
    · have hkT : k = T := by omega
      have D := Lib.hid (fun w => calDay_f x (by have := FO.out; rw [HX.out, hkT]; exact this) w)
      have HV := Lib.hid hkT
      clear hkT held
      gi_wp2_with (refine ⟨trivial, ?_⟩; gi_at_call 102; refine (callsIn_wide.2 (D.out _)).mono ?_; rintro e w' ⟨rfl, rfl⟩)
      go_end0
      exact ⟨⟨_, rfl⟩, .inl ⟨_, rfl, by rw [← HV.out]; exact HJs.out⟩⟩

/-- the iterator, in its library's words -/
theorem biz_stops (n : Nat) (hn : 1 ≤ n) (n₀ : Nat) (w w0 : World) (hw : w.heap.size = n₀) (W : Int) (a : Option Addr) (cap : Nat) (hs : List Int) (start dir : Int) (T : Nat) (b4 b5 b3 : Nat) (hE : calE W hs = 0) (hF : Far start dir T) (hH : Held w W (.slice a hs.length cap) hs start dir b4 b5 b3) (hk : Kpt w w0) :
    SeqStopsK Fence.wide n Try.prog 173 #[.pointer (some ⟨b4, 0, none⟩), .pointer (some ⟨b5, 0, none⟩), .pointer (some ⟨b3, 0, none⟩)] (fun x : Int => #[.int .i64 x]) (Below n₀) (fun ys => ys = vis (bizB W hs) start dir T) (fun pre => pre <+: vis (bizB W hs) start dir T) T w0 := by
  intro l J Jx W0 hW hJ hJx hY h0
  subst hw
  exact bizIter_in n hn l w W a cap hs start dir T b4 b5 b3 hE hF hH J Jx W0 hJ (ktr hk hW) hY h0

/-- the many-th of those that come -/
def nthR (l : List Int) (many : Nat) : Int := if many ≤ l.length then l.getD (many - 1) 0 else 0
def nthE (l : List Int) (many : Nat) : Int := if many ≤ l.length then 0 else 8
theorem nth_in {l : List Int} {pre : List Int} {x : Int} (h : pre ++ [x] <+: l) : nthR l (pre.length + 1) = x ∧ nthE l (pre.length + 1) = 0 := by
  obtain ⟨t, rfl⟩ := h
  have : pre.length + 1 ≤ (pre ++ [x] ++ t).length := by simp
  unfold nthR nthE
  rw [if_pos this, if_pos this]
  refine ⟨?_, rfl⟩
  rw [List.getD_eq_getElem?_getD, List.append_assoc, List.getElem?_append_right (by omega)]
  simp
theorem nth_out {l : List Int} {many : Nat} (h : l.length < many) : nthR l many = 0 ∧ nthE l many = 8 := by
  unfold nthR nthE
  rw [if_neg (by omega), if_neg (by omega)]
  exact ⟨rfl, rfl⟩

set_option maxRecDepth 100000 in
set_option maxHeartbeats 2000000 in
theorem nth_biz (W : Int) (a : Option Addr) (cap : Nat) (hs : List Int) (start dir : Int) (T : Nat) (b4 b5 b3 : Nat) (many : Nat) (m0 : 1 ≤ many) (m1 : many ≤ 1000) (hE : calE W hs = 0) (hF : Far start dir T) (w : World) (hH : Held w W (.slice a hs.length cap) hs start dir b4 b5 b3) :
    Calls Try.prog 171 #[.func (.func 173) #[] #[.pointer (some ⟨b4, 0, none⟩), .pointer (some ⟨b5, 0, none⟩), .pointer (some ⟨b3, 0, none⟩)], .int .i64 many] w fun e w' => e = .returned (.tuple #[.int .i64 (nthR (vis (bizB W hs) start dir T) many), .int .i64 (nthE (vis (bizB W hs) start dir T) many)]) ∧ Kpt w w' := by
  have k1 : Kpt w (w.alloc (.cells #[.int .i64 many] 3)) := (Kpt.refl _).alloc _
  refine (callsIn_wide (n := 3)).1 ?_
  have ST := Lib.hid (fun w0 => biz_stops 2 (by omega) w.heap.size w w0 rfl W a cap hs start dir T b4 b5 b3 hE hF hH)
  clear hE hF hH
  refine callsIn_of_wp_marks Try.func171 rfl trivial ?_ rfl
  simp only [Try.ntmps171, List.size_toArray, List.length_cons, List.length_nil, Nat.reduceAdd, Nat.reduceSub, Array.replicate_succ, Array.replicate_zero, List.push_toArray, List.append_toArray, List.nil_append, List.cons_append]
  gi_wp2
  obtain ⟨w3, hw3⟩ : ∃ w3, (((w.alloc (.cells #[.int .i64 many] 3)).alloc (.cells #[.int .i64 0] 3)).alloc (.cells #[.int .i64 0] 27)) = w3 := ⟨_, rfl⟩
  have cm : w3.cell? ⟨w.heap.size, 0, none⟩ = some (.int .i64 many) := by rw [← hw3]; simp [go_sem]
  have c4 : w3.cell? ⟨w.heap.size + 1, 0, none⟩ = some (.int .i64 0) := by rw [← hw3]; simp [go_sem]
  have c5 : w3.cell? ⟨w.heap.size + 1 + 1, 0, none⟩ = some (.int .i64 0) := by rw [← hw3]; simp [go_sem]
  have fm : w3.frozen? ⟨w.heap.size, 0, none⟩ = false := by rw [← hw3]; simp [go_sem]
  have f4 : w3.frozen? ⟨w.heap.size + 1, 0, none⟩ = false := by rw [← hw3]; simp [go_sem]
  have f5 : w3.frozen? ⟨w.heap.size + 1 + 1, 0, none⟩ = false := by rw [← hw3]; simp [go_sem]
  have sz : w3.heap.size = w.heap.size + 3 := by rw [← hw3]; simp
  have hB0 : Below w.heap.size w w3 := by rw [← hw3]; exact (((Kpt.refl w).alloc _).alloc _).alloc _
  rw [hw3]
  clear hw3 k1
  refine wpIn_rangeFunc_ownF rfl (by omega) (gf := 173) (lb := #[.pointer (some ⟨b4, 0, none⟩), .pointer (some ⟨b5, 0, none⟩), .pointer (some ⟨b3, 0, none⟩)]) rfl trivial (enters_of Try.func173 (by kernel_rfl) rfl)
    (ST.out w3 hB0) belowK_t (belowK_b (by omega)) (Below.refl _ _) (fun _ => rfl)
    (fun pre W => ((W.cell? ⟨w.heap.size, 0, none⟩ = some (.int .i64 ((many : Int) - (pre.length : Int))) ∧ W.frozen? ⟨w.heap.size, 0, none⟩ = false) ∧ pre.length < many ∧ (W.cell? ⟨w.heap.size + 1, 0, none⟩ = some (.int .i64 0) ∧ W.frozen? ⟨w.heap.size + 1, 0, none⟩ = false) ∧ (W.cell? ⟨w.heap.size + 1 + 1, 0, none⟩ = some (.int .i64 0) ∧ W.frozen? ⟨w.heap.size + 1 + 1, 0, none⟩ = false)) ∧ Below w.heap.size w W)
    (fun c pre W => (c = .ret ∧ (∃ (ini : List Int) (x : Int), pre = ini ++ [x] ∧ ini.length + 1 = many ∧ W.cell? ⟨w.heap.size + 1, 0, none⟩ = some (.int .i64 x)) ∧ W.cell? ⟨w.heap.size + 1 + 1, 0, none⟩ = some (.int .i64 0)) ∧ Below w.heap.size w W)
    (OwnFrom.and (Own.from (fun s A B row hs hg hr => ⟨⟨cell_kept hs.1.1 hg hr, (frozen_kept hs.1.1 hg hr).trans hs.1.2⟩, hs.2.1, ⟨cell_kept hs.2.2.1.1 hg hr, (frozen_kept hs.2.2.1.1 hg hr).trans hs.2.2.1.2⟩, ⟨cell_kept hs.2.2.2.1 hg hr, (frozen_kept hs.2.2.2.1 hg hr).trans hs.2.2.2.2⟩⟩) _) (ownFrom_below (Nat.le_refl _) (by omega)))
    (fun c => OwnFrom.and (Own.from (fun s A B row hs hg hr => by obtain ⟨hc, ⟨ini, x, e1, e2, e3⟩, e4⟩ := hs; exact ⟨hc, ⟨ini, x, e1, e2, cell_kept e3 hg hr⟩, cell_kept e4 hg hr⟩) _) (ownFrom_below (Nat.le_refl _) (by omega)))
    ⟨⟨⟨by simpa using cm, fm⟩, m0, ⟨c4, f4⟩, ⟨c5, f5⟩⟩, hB0⟩
    (fun x => { tmps := #[.func (.func 173) #[] #[.pointer (some ⟨b4, 0, none⟩), .pointer (some ⟨b5, 0, none⟩), .pointer (some ⟨b3, 0, none⟩)], .int .i64 many, undef, .pointer (some ⟨w.heap.size, 0, none⟩), .pointer (some ⟨w.heap.size + 1, 0, none⟩), .pointer (some ⟨w.heap.size + 1 + 1, 0, none⟩), .int .i64 x, .func (.func 173) #[] #[.pointer (some ⟨b4, 0, none⟩), .pointer (some ⟨b5, 0, none⟩), .pointer (some ⟨b3, 0, none⟩)], .int .i64 x, undef, undef, undef, undef, undef], defers := [] }) ?assign ?body ?done ?stop
  case assign =>
    intro l x W' K hK
    gi_wp2
    exact hK
  case body =>
    clear cm c4 c5 fm f4 f5 hB0
    rintro l pre x W' ⟨⟨⟨cm, fm⟩, hlt, ⟨c4, f4⟩, c5, f5⟩, hB⟩ _
    obtain ⟨r, hr⟩ : ∃ r : Int, (many : Int) - (pre.length : Int) = r := ⟨_, rfl⟩
    rw [hr] at cm
    have r1 : 1 ≤ r := by omega
    have r2 : r ≤ 1000 := by omega
    have HR := Lib.hid hr
    have HB := Lib.hid hB
    have SZ := Lib.hid sz
    clear hr hB sz ST
    by_cases hz : r = 1
    · subst hz
      have HL : Hid (pre.length + 1 = many) := by unfold Hid; have := HR.out; omega
      gi_wp2
      have e4 := set_far (p := ⟨w.heap.size, 0, none⟩) (v := .int .i64 0) (by simp) c4
      have e5 := set_far (p := ⟨w.heap.size + 1, 0, none⟩) (v := .int .i64 x) (by simp) (set_far (p := ⟨w.heap.size, 0, none⟩) (v := .int .i64 0) (by simp; omega) c5)
      exact ⟨((KeepsOthers.setCell _ _ _).trans (KeepsOthers.setCell _ _ _)).trans (KeepsOthers.setCell _ _ _), ⟨rfl, ⟨pre, x, rfl, HL.out, set_far (by simp) (set_at e4)⟩, set_at e5⟩, ((HB.out.setCell (p := ⟨w.heap.size, 0, none⟩) (Nat.le_refl _) _).setCell (p := ⟨w.heap.size + 1, 0, none⟩) (by simp) _).setCell (p := ⟨w.heap.size + 1 + 1, 0, none⟩) (by simp; omega) _⟩
    · have q : (r - 1 == 0) = false := beq_eq_false_iff_ne.2 (by omega)
      have HZ : Hid (r ≠ 1) := hz
      clear hz
      gi_wp2
      have ee : (many : Int) - ((pre ++ [x]).length : Int) = r - 1 := by have := HR.out; simp; omega
      have ll : (pre ++ [x]).length < many := by have := HR.out; have := HZ.out; simp; omega
      exact ⟨KeepsOthers.setCell _ _ _, (Below.refl w.heap.size W').setCell (p := ⟨w.heap.size, 0, none⟩) (Nat.le_refl _) _, ⟨⟨by rw [ee]; exact set_at cm, by rw [World.frozen?_setCell]; exact fm⟩, ll, ⟨set_far (by simp) c4, by rw [World.frozen?_setCell]; exact f4⟩, ⟨set_far (by simp; omega) c5, by rw [World.frozen?_setCell]; exact f5⟩⟩, HB.out.setCell (p := ⟨w.heap.size, 0, none⟩) (Nat.le_refl _) _⟩
  case done =>
    rintro D ys W' hD rfl ⟨⟨⟨cm, fm⟩, hlt, ⟨c4, f4⟩, c5, f5⟩, hB⟩ hK
    gi_wp2
    have hK' := ((KeepsOthers.setCell W' ⟨w.heap.size + 1, 0, none⟩ (.int .i64 0)).trans (KeepsOthers.setCell _ ⟨w.heap.size + 1 + 1, 0, none⟩ (.int .i64 8))).same D _ hK rfl
    have e4 := set_far (p := ⟨w.heap.size + 1 + 1, 0, none⟩) (v := .int .i64 8) (by simp) (set_at (v := .int .i64 0) c4)
    have e5 := set_at (v := .int .i64 8) (set_far (p := ⟨w.heap.size + 1, 0, none⟩) (v := .int .i64 0) (by simp) c5)
    refine ⟨by simp, .inl ⟨_, _, rfl, run_takeDeferred hK', ?_⟩⟩
    have hc4 := cell_kept e4 (grownBy_putObj' _ D (.deferred none)) (fun r e => by cases e; exact ⟨_, hK', rfl⟩)
    have hc5 := cell_kept e5 (grownBy_putObj' _ D (.deferred none)) (fun r e => by cases e; exact ⟨_, hK', rfl⟩)
    obtain ⟨n1, n2⟩ := nth_out hlt
    refine ⟨.tuple #[.int .i64 0, .int .i64 8], ?_, ?_, ((hB.setCell (p := ⟨w.heap.size + 1, 0, none⟩) (by simp) _).setCell (p := ⟨w.heap.size + 1 + 1, 0, none⟩) (by simp; omega) _).trans (belowK_b (w := w) (Nat.le_refl _) _ D _ _ (by omega) hK' rfl rfl)⟩
    · simp [results, Try.f171, go_sem, hc4, hc5]
    · rw [n1, n2]
  case stop =>
    rintro D c pre W' hD hpre ⟨⟨rfl, ⟨ini, x, rfl, e2, e3⟩, e4⟩, hB⟩ hK
    gi_wp2
    refine ⟨by simp, .inl ⟨_, _, rfl, run_takeDeferred hK, ?_⟩⟩
    have hc4 := cell_kept e3 (grownBy_putObj' _ D (.deferred none)) (fun r e => by cases e; exact ⟨_, hK, rfl⟩)
    have hc5 := cell_kept e4 (grownBy_putObj' _ D (.deferred none)) (fun r e => by cases e; exact ⟨_, hK, rfl⟩)
    obtain ⟨n1, n2⟩ := nth_in hpre
    rw [e2] at n1 n2
    refine ⟨.tuple #[.int .i64 x, .int .i64 0], ?_, ?_, hB.trans (belowK_b (w := w) (Nat.le_refl _) W' D _ _ (by omega) hK rfl rfl)⟩
    · simp [results, Try.f171, go_sem, hc4, hc5]
    · rw [n1, n2]

theorem business_any (W start dir : Int) (v : Value) (hs : List Int) (w : World) (hr : Reads w v hs) :
    Calls Try.prog 172 #[calV W v, .int .i64 start, .int .i64 dir] w fun e w' => e = .returned (.func (.func 173) #[] #[.pointer (some ⟨w.heap.size + 1, 0, none⟩), .pointer (some ⟨w.heap.size + 2, 0, none⟩), .pointer (some ⟨w.heap.size, 0, none⟩)]) ∧ Held w' W v hs start dir (w.heap.size + 1) (w.heap.size + 2) w.heap.size ∧ Grew w w' := by
  have rd : Reads (((w.alloc (.cells #[.int .i64 W, v] 24)).alloc (.cells #[.int .i64 start] 3)).alloc (.cells #[.int .i64 dir] 3)) v hs := hr.grew ((((Grew.refl _).alloc _ _).alloc _ _).alloc _ _)
  obtain ⟨a, cap, rfl, hm, hc⟩ := id hr
  have RD := Lib.hid rd
  clear hr hm hc rd
  go_enter Try.func172, Try.ntmps172
  go_wp2
  go_ret
  exact ⟨rfl, ⟨by simp [go_sem], by simp [go_sem], by simp [go_sem], by simp [go_sem], RD.out⟩, (((Grew.refl _).alloc _ _).alloc _ _).alloc _ _⟩

end Go.Proofs.Ytgccipmeiceonaa
