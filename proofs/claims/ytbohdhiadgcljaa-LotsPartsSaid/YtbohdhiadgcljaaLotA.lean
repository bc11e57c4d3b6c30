/-
  What Check, sums, choice, isDearer and costOf of package lots do.
-/
import Derived.Test.YtbohdhiadgcljaaLotMath
import Derived.Test.YtbohdhiadgcljaaLotD
import Derived.Test.YtbohdhiadgcljaaWeek
import Derived.Test.YtbohdhiadgcljaaPart2
import Derived.Deep.QuietTactic
import Derived.BigQuiet
import Derived.Shelf.SlSortCmp.QuietGrown
namespace Go.Proofs.Ytbohdhiadgcljaa
open Go.RowKit
set_option linter.unusedVariables false

set_option maxHeartbeats 1000000 in
theorem checkLot_ok (d u c : Int) (w : World) (h : lotB (d, u, c) = true) : Calls Try.prog 55 #[.agg #[.int .i64 d, .int .i64 u, .int .i64 c]] w fun e w' => e = .returned (.int .i64 0) ∧ Grew w w' := by
  have hb := lot_t h
  simp only at hb
  obtain ⟨d0, d1, u0, u1, c0, c1⟩ := hb
  clear h
  go_enter Try.func55, Try.ntmps55
  go_wp2_with (go_at_call 69; (with_reducible refine (wk_ok _ d0 d1 _).mono ?_); rintro e w' ⟨rfl, rfl⟩)
  go_ret
  exact ⟨rfl, (Grew.refl _).alloc _ _⟩
set_option maxHeartbeats 1000000 in
theorem checkLot_no (d u c : Int) (w : World) (h : lotB (d, u, c) = false) : Calls Try.prog 55 #[.agg #[.int .i64 d, .int .i64 u, .int .i64 c]] w fun e w' => e = .returned (.int .i64 3) ∧ Grew w w' := by
  have hb := lot_f h
  simp only at hb
  clear h
  by_cases hd : 0 ≤ d ∧ d ≤ 3652058
  · obtain ⟨d0, d1⟩ := hd
    by_cases h1 : u < 1
    · clear hb
      go_enter Try.func55, Try.ntmps55
      go_wp2_with (go_at_call 69; (with_reducible refine (wk_ok _ d0 d1 _).mono ?_); rintro e w' ⟨rfl, rfl⟩)
      go_ret
      exact ⟨rfl, (Grew.refl _).alloc _ _⟩
    · have g1 : decide (u < 1) = false := decide_eq_false h1
      by_cases h2 : 1073741824 < u
      · clear hb
        go_enter Try.func55, Try.ntmps55
        go_wp2_with (go_at_call 69; (with_reducible refine (wk_ok _ d0 d1 _).mono ?_); rintro e w' ⟨rfl, rfl⟩)
        go_ret
        exact ⟨rfl, (Grew.refl _).alloc _ _⟩
      · have g2 : decide (1073741824 < u) = false := decide_eq_false h2
        by_cases h3 : c < 0
        · clear hb
          go_enter Try.func55, Try.ntmps55
          go_wp2_with (go_at_call 69; (with_reducible refine (wk_ok _ d0 d1 _).mono ?_); rintro e w' ⟨rfl, rfl⟩)
          go_ret
          exact ⟨rfl, (Grew.refl _).alloc _ _⟩
        · have g3 : decide (c < 0) = false := decide_eq_false h3
          have g4 : 4294967296 < c := by omega
          clear hb
          go_enter Try.func55, Try.ntmps55
          go_wp2_with (go_at_call 69; (with_reducible refine (wk_ok _ d0 d1 _).mono ?_); rintro e w' ⟨rfl, rfl⟩)
          go_ret
          exact ⟨rfl, (Grew.refl _).alloc _ _⟩
  · have H := Lib.hid (show d < 0 ∨ 3652058 < d by omega)
    clear hd hb
    go_enter Try.func55, Try.ntmps55
    go_wp2_with (go_at_call 69; (with_reducible refine (wk_no _ H.out _).mono ?_); rintro e w' ⟨rfl, rfl⟩)
    go_ret
    exact ⟨rfl, (Grew.refl _).alloc _ _⟩

theorem drop_getDL {ps : List (Int × Int × Int)} {k : Nat} (hk : k < ps.length) : ps.drop k = ps.getD k default :: ps.drop (k + 1) := by
  rw [List.drop_eq_getElem_cons hk, List.getD_eq_getElem?_getD, List.getElem?_eq_getElem hk]; rfl
theorem day_ok {c : Int} {p : Int × Int × Int} {l : List (Int × Int × Int)} (h : lotB p = true) (h2 : c ≤ p.1) : dayE c (p :: l) = dayE p.1 l := by rw [dayE, if_pos h, if_neg (by omega)]
theorem day_st {c : Int} {p : Int × Int × Int} {l : List (Int × Int × Int)} (h : lotB p = true) (h2 : p.1 < c) : dayE c (p :: l) = 4 := by rw [dayE, if_pos h, if_pos h2]
theorem day_no {c : Int} {p : Int × Int × Int} {l : List (Int × Int × Int)} (h : lotB p = false) : dayE c (p :: l) = 3 := by rw [dayE, h]; rfl

theorem lotsCheck_many (a : Option Addr) (n cap : Nat) (hn : 40 < n) (hb : n ≤ maxLen) (w : World) : Calls Try.prog 32 #[.slice a n cap] w fun e w' => e = .returned (.int .i64 2) ∧ Grew w w' := by
  unfold maxLen at hb
  have hn' : (40 : Int) < (n : Int) := by omega
  go_enter Try.func32, Try.ntmps32
  go_wp2
  go_ret
  exact ⟨rfl, Grew.refl _⟩

set_option maxHeartbeats 2000000 in
theorem lotsCheck_few (a : Option Addr) (cap : Nat) (ps : List (Int × Int × Int)) (w : World) (hm : ps.length ≤ 40) (hc : ∀ j, j < ps.length → ∃ b off, a = some ⟨b, off, none⟩ ∧ PtAt w b (off + j * 3) (ps.getD j default)) :
    Calls Try.prog 32 #[.slice a ps.length cap] w fun e w' => e = .returned (.int .i64 (dayE 0 ps)) ∧ Grew w w' := by
  have HC := Lib.hid hc; clear hc
  go_enter Try.func32, Try.ntmps32
  go_wp2
  go_loopw [3, 12] (fun c i wr => ∃ (k : Nat) (b : Int), k ≤ ps.length ∧ i = .int .i64 k ∧ c = .int .i64 b ∧ Hid (dayE 0 ps = dayE b (ps.drop k)) ∧ Hid (Grew w wr)) (fun _ i _ => ps.length - (intOf i).toNat)
  case atStart => exact ⟨0, 0, Nat.zero_le _, rfl, rfl, rfl, Grew.refl _⟩
  case round =>
    obtain ⟨k, b, hk, rfl, rfl, HE, HG⟩ := hrel
    by_cases hlt : k < ps.length
    · obtain ⟨x, off, rfl, hp⟩ := HC.out k hlt
      obtain ⟨c0, c1, c2⟩ := hp.grew HG.out
      have hd := drop_getDL hlt
      generalize ps.getD k default = p at c0 c1 c2 hd
      have HD : Hid (dayE 0 ps = dayE b (p :: ps.drop (k + 1))) := by unfold Hid; rw [HE.out, hd]
      clear hd
      clear hp
      obtain ⟨D, U, C⟩ := p
      simp only at c0 c1 c2
      cases hB : lotB (D, U, C) with
      | false =>
        have CB := Lib.hid (fun w => checkLot_no D U C w hB)
        have HX : Hid (dayE 0 ps = 3) := by unfold Hid; rw [HD.out, day_no hB]
        clear hB
        go_wp2_with (go_at_call 55; (with_reducible refine (CB.out _).mono ?_); rintro e w2 ⟨rfl, g2⟩; have G2 := Lib.hid (gtr (HG.out.alloc _ _) g2); clear g2)
        go_ret
        exact ⟨ret_int HX.out.symm, G2.out⟩
      | true =>
        have CB := Lib.hid (fun w => checkLot_ok D U C w hB)
        by_cases hs : D < b
        · have HX : Hid (dayE 0 ps = 4) := by unfold Hid; rw [HD.out, day_st hB hs]
          clear hB
          go_wp2_with (go_at_call 55; (with_reducible refine (CB.out _).mono ?_); rintro e w2 ⟨rfl, g2⟩; have Z := g2.cell (p := ⟨wr.heap.size, 0, none⟩) (by simp) ((Blk.made wr #[.int .i64 D, .int .i64 U, .int .i64 C] 45).cell 0); have Z2 : w2.cell? ⟨wr.heap.size, 0, none⟩ = some (.int .i64 D) := Z; clear Z; have G2 := Lib.hid (gtr (HG.out.alloc _ _) g2); clear g2)
          go_ret
          exact ⟨ret_int HX.out.symm, G2.out⟩
        · have HX : Hid (dayE 0 ps = dayE D (ps.drop (k + 1))) := by unfold Hid; rw [HD.out, day_ok hB (by simp only; omega)]
          have hs' : decide (D < b) = false := decide_eq_false hs
          clear hB
          go_wp2_with (go_at_call 55; (with_reducible refine (CB.out _).mono ?_); rintro e w2 ⟨rfl, g2⟩; have Z := g2.cell (p := ⟨wr.heap.size, 0, none⟩) (by simp) ((Blk.made wr #[.int .i64 D, .int .i64 U, .int .i64 C] 45).cell 0); have Z2 : w2.cell? ⟨wr.heap.size, 0, none⟩ = some (.int .i64 D) := Z; clear Z; have G2 := Lib.hid (gtr (HG.out.alloc _ _) g2); clear g2)
          go_roundw
          case rel => exact ⟨k + 1, D, by omega, by go_num, rfl, HX.out, G2.out⟩
          case measure => simp [intOf]; omega
    · have HX : Hid (dayE 0 ps = 0) := by unfold Hid; rw [HE.out, List.drop_eq_nil_of_le (by omega)]; rfl
      go_wp2
      go_ret
      exact ⟨ret_int HX.out.symm, HG.out⟩

theorem lotsCheck_any (v : Value) (ps : List (Int × Int × Int)) (w : World) (hr : ReadsP w v ps) :
    Calls Try.prog 32 #[v] w fun e w' => e = .returned (.int .i64 (lotsE ps)) ∧ Grew w w' := by
  obtain ⟨a, cap, rfl, -, hm, -, hc⟩ := hr
  by_cases h : 40 < ps.length
  · have e : lotsE ps = 2 := by unfold lotsE; rw [if_pos h]
    rw [e]
    exact lotsCheck_many a _ cap h hm w
  · have e : lotsE ps = dayE 0 ps := by unfold lotsE; rw [if_neg h]
    rw [e]
    exact lotsCheck_few a cap ps w (by omega) hc

theorem units_take {l : List (Int × Int × Int)} {k : Nat} (hk : k < l.length) : unitsOf (l.take (k + 1)) = unitsOf (l.take k) + (l.getD k default).2.1 ∧ costsOf (l.take (k + 1)) = costsOf (l.take k) + (l.getD k default).2.2 := by
  rw [List.take_succ_eq_append_getElem hk, units_append, costs_append, List.getD_eq_getElem?_getD, List.getElem?_eq_getElem hk]
  simp [unitsOf, costsOf]

set_option maxHeartbeats 1000000 in
theorem sums_run (v : Value) (l : List (Int × Int × Int)) (w : World) (hr : ReadsP w v l) (h : ∀ p ∈ l, lotB p = true) (hn : l.length ≤ 40) :
    Calls Try.prog 48 #[v] w fun e w' => e = .returned (.tuple #[.int .i64 (unitsOf l), .int .i64 (costsOf l)]) ∧ Grew w w' := by
  obtain ⟨a, cap, rfl, -, -, -, hc⟩ := hr
  have HC := Lib.hid hc
  have HT : Hid (∀ k, (0 ≤ unitsOf (l.take k) ∧ unitsOf (l.take k) ≤ 42949672960) ∧ 0 ≤ costsOf (l.take k) ∧ costsOf (l.take k) ≤ 171798691840) := fun k => by
    have h1 := units_bd (l := l.take k) fun p hp => h p (List.mem_of_mem_take hp)
    have h2 := costs_bd (l := l.take k) fun p hp => h p (List.mem_of_mem_take hp)
    rw [List.length_take] at h1 h2
    omega
  have HB := Lib.hid h
  clear hc h
  go_enter Try.func48, Try.ntmps48
  go_wp2
  go_loopw [2, 3, 8] (fun u c i wr => ∃ k : Nat, k ≤ l.length ∧ i = .int .i64 k ∧ u = .int .i64 (unitsOf (l.take k)) ∧ c = .int .i64 (costsOf (l.take k)) ∧ Hid (Grew w wr)) (fun _ _ i _ => l.length - (intOf i).toNat)
  case atStart => exact ⟨0, Nat.zero_le _, rfl, rfl, rfl, Grew.refl _⟩
  case round =>
    obtain ⟨k, hk, rfl, rfl, rfl, HG⟩ := hrel
    by_cases hlt : k < l.length
    · obtain ⟨x, off, rfl, hp⟩ := HC.out k hlt
      obtain ⟨c0, c1, c2⟩ := hp.grew HG.out
      have ht := HT.out k
      have hs := Lib.hid (units_take hlt)
      have hb := lot_t (HB.out _ (getD_memL hlt))
      generalize unitsOf (l.take k) = us at *
      generalize costsOf (l.take k) = cs at *
      generalize l.getD k default = p at c0 c1 c2 hs hb
      obtain ⟨D, U, C⟩ := p
      simp only at c0 c1 c2 hb
      obtain ⟨-, -, b2, b3, b4, b5⟩ := hb
      obtain ⟨⟨t0, t1⟩, t2, t3⟩ := ht
      clear hp
      go_wp2
      go_roundw
      case rel => exact ⟨k + 1, by omega, by go_num, by rw [hs.out.1], by rw [hs.out.2], HG.out.alloc _ _⟩
      case measure => simp [intOf]; omega
    · have e : l.take k = l := List.take_of_length_le (by omega)
      have E := Lib.hid e
      clear e
      go_wp2
      go_ret2
      exact ⟨by rw [E.out]; rfl, HG.out⟩

/-- which call finds the lot that is sold first -/
def fOf (kind : Int) : Nat := if kind = 1 then 64 else if kind = 2 then 65 else 66
theorem choice_no (k : Int) (w : World) (h : k < 1 ∨ 3 < k) : Calls Try.prog 47 #[.int .i64 k] w fun e w' => e = .returned (.tuple #[.nilFunc, .int .i64 7]) ∧ w = w' := by
  have h1 : (k == 1) = false := beq_eq_false_iff_ne.2 (by omega)
  have h2 : (k == 2) = false := beq_eq_false_iff_ne.2 (by omega)
  have h3 : (k == 3) = false := beq_eq_false_iff_ne.2 (by omega)
  clear h
  go_enter Try.func47, Try.ntmps47
  go_wp2
  go_ret2
  exact ⟨rfl, rfl⟩
theorem choice_1 (w : World) : Calls Try.prog 47 #[.int .i64 1] w fun e w' => e = .returned (.tuple #[.func (.func 64) #[] #[], .int .i64 0]) ∧ w = w' := by
  go_enter Try.func47, Try.ntmps47
  go_wp2
  go_ret2
  exact ⟨rfl, rfl⟩
theorem choice_2 (w : World) : Calls Try.prog 47 #[.int .i64 2] w fun e w' => e = .returned (.tuple #[.func (.func 65) #[] #[], .int .i64 0]) ∧ w = w' := by
  go_enter Try.func47, Try.ntmps47
  go_wp2
  go_ret2
  exact ⟨rfl, rfl⟩
theorem choice_3 (w : World) : Calls Try.prog 47 #[.int .i64 3] w fun e w' => e = .returned (.tuple #[.func (.func 66) #[] #[], .int .i64 0]) ∧ w = w' := by
  go_enter Try.func47, Try.ntmps47
  go_wp2
  go_ret2
  exact ⟨rfl, rfl⟩

theorem costOf_run (u D U C : Int) (w : World) (h : lotB (D, U, C) = true) (h0 : 0 ≤ u) (h1 : u ≤ U) : Calls Try.prog 50 #[.int .i64 u, .agg #[.int .i64 D, .int .i64 U, .int .i64 C]] w fun e w' => e = .returned (.int .i64 (partC (D, U, C) u)) ∧ Grew w w' := by
  have hb := lot_t h
  simp only at hb
  obtain ⟨d0, d1, u0, u1, c0, c1⟩ := hb
  have hp := part_bd h h0 h1
  have P := Lib.hid (fun w => part_ok C u U (amt_mk (by omega) (by omega)) (decide_eq_true ⟨by omega, by omega, by omega, by omega⟩) (amt_mk (by have := hp.1; unfold partC at this; simp only at this; omega) (by have := hp.2; unfold partC at this; simp only at this; omega)) w)
  have E : partC (D, U, C) u = C * u / U := rfl
  rw [E]
  clear hp h E
  generalize C * u / U = q at *
  generalize C * u % U = r at *
  go_enter Try.func50, Try.ntmps50
  go_wp2_with (go_at_call 68; (with_reducible refine (P.out _).mono ?_); rintro e w1 ⟨rfl, g1⟩)
  go_ret
  exact ⟨rfl, gtr ((Grew.refl _).alloc _ _) g1⟩

theorem dear_bd {D U C D' U' C' : Int} (h : lotB (D, U, C) = true) (h' : lotB (D', U', C') = true) : 0 ≤ C * U' ∧ C * U' ≤ 4611686018427387904 := by
  have hb := lot_t h; have hb' := lot_t h'
  simp only at hb hb'
  refine ⟨Int.mul_nonneg (by omega) (by omega), ?_⟩
  have h1 : C * U' ≤ 4294967296 * U' := Int.mul_le_mul_of_nonneg_right (by omega) (by omega)
  omega
theorem isDearer_run (D U C D' U' C' : Int) (W : World) (h : lotB (D, U, C) = true) (h' : lotB (D', U', C') = true) : Calls Try.prog 67 #[.agg #[.int .i64 D, .int .i64 U, .int .i64 C], .agg #[.int .i64 D', .int .i64 U', .int .i64 C']] W fun e w' => e = .returned (.bool (dearB (D, U, C) (D', U', C'))) ∧ ∃ q os', w' = Go.Sort.grow (W.drewN q) os' := by
  have b1 := dear_bd h h'
  have b2 := dear_bd h' h
  have hb := lot_t h; have hb' := lot_t h'
  simp only at hb hb'
  obtain ⟨_, _, u0, u1, c0, c1⟩ := hb
  obtain ⟨_, _, v0, v1, e0, e1⟩ := hb'
  have E : dearB (D, U, C) (D', U', C') = decide (C' * U < C * U') := rfl
  have w1 : IntKind.i64.wrap (C * U') = C * U' := IntWalk.i64_in _ (by omega)
  have w2 : IntKind.i64.wrap (C' * U) = C' * U := IntWalk.i64_in _ (by omega)
  rw [E]
  clear h h' E
  go_enter Try.func67, Try.ntmps67
  go_wp2
  go_ret
  exact ⟨rfl, 0, _, by rw [Go.Sort.alloc_eq_grow, Go.Sort.alloc_eq_grow, Go.Sort.grow_grow]; rfl⟩

end Go.Proofs.Ytbohdhiadgcljaa
