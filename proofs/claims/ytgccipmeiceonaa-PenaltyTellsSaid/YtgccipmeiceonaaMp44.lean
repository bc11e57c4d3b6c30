/-
  Merged: PenS, PenB, PenE, PenW.
-/
import Derived.Test.YtgccipmeiceonaaMp42
import Derived.Test.YtgccipmeiceonaaMp35
import Derived.Test.YtgccipmeiceonaaMp14
import Derived.Test.YtgccipmeiceonaaMp37
import Derived.Test.YtgccipmeiceonaaMp22
import Derived.Test.YtgccipmeiceonaaMp43
import Derived.Deep.MidRow
import Derived.Deep.Cut
import Derived.Deep.CutRange
import Derived.Deep.RegionWith
import Derived.Deep.RegionHeld3
import Derived.Deep.RegionLaw
-- PenS
namespace Go.Proofs.Ytgccipmeiceonaa
open Go.RowKit
set_option linter.unusedVariables false

theorem Try.infoPstQ : (Try.prog.info? 94).map (fun i => (i.zero, i.size, i.bytes)) = some (some (.agg #[.int .i64 0, .int .i64 0, .int .i64 0]), 3, 24) := by kernel_rfl
theorem wp_appendQ {ops : Array Oper} {rest : List Oper} {o : Oper} {a : Act} {Q : Exit → Act → World → Prop} (hgd : o.guard = none) (s x : Operand)
    (ho : o.op = .call { callee := .builtin .append, args := #[s, x], argTypes := #[39, 39] })
    (base : Nat) (v : Value) (ps : List (Int × Int × Int)) (f t n : Int) (w : World) (hs : a.eval s = v) (hown : OwnsT 94 w base v ps) (hx : a.eval x = .slice (some ⟨w.heap.size, 0, none⟩) 1 1)
    (hlen : ps.length + 1 ≤ 100000) (hbase : base ≤ w.heap.size)
    (h : ∀ v' w', OwnsT 94 w' base v' (ps ++ [(f, t, n)]) → Below base w w' → wpList Try.prog ops Q rest (a.put o.dst v') w') : wpList Try.prog ops Q (o :: rest) a (w.alloc (.cells #[.int .i64 f, .int .i64 t, .int .i64 n] 94)) := by
  obtain ⟨i0, hi, hz0, hz1, hz2⟩ := info_parts Try.infoPstQ
  refine wpList_append_lies _ hgd s x 39 ho base 94 i0 (.agg #[.int .i64 0, .int .i64 0, .int .i64 0]) 3 24 Try.underlying39 hi hz0 hz1 hz2 rfl (by decide) v _ _ hs (hown.alloc _) ⟨w.heap.size, 0, none⟩ 1 1 [.int .i64 f, .int .i64 t, .int .i64 n] hx rfl (World.news_of_block (heap_alloc_new w _)) ?_ (by decide) ?_ ?_ ?_ (w.heap.size + 1) (by simp) ?_
  · intro u hu
    simp at hu
    rcases hu with rfl | rfl | rfl <;> rfl
  · unfold maxLen; omega
  · omega
  · rw [World.size_alloc]; omega
  · intro g cap w' h1 h2 h3 h4
    refine h _ w' ?_ ?_
    · unfold OwnsT
      rw [List.length_append, flatP_append]
      exact h1
    · exact ((Below.refl base w).alloc hbase _).grown h2 (by rw [World.size_alloc]; omega) hown.ge

/-- the postings of these parties -/
def sumL (f : Nat → Int) : Nat → List (Int × Int × Int)
  | 0 => []
  | k + 1 => if f k = 0 then sumL f k else sumL f k ++ [((k : Int), 0, f k)]
theorem sumL_len (f : Nat → Int) : ∀ k, (sumL f k).length ≤ k := by
  intro k
  induction k with
  | zero => exact Nat.le_refl _
  | succ k ih =>
    unfold sumL; split
    · omega
    · rw [List.length_append, List.length_singleton]; omega
/-- what Sum answers -/
def sumE (ps : List (Int × Int × Int)) : Int := if netE ps = 0 then (if (List.range 31).all (fun u => amtB (standF ps u)) = true then (if sumL (standF ps) 31 = [] then 5 else 0) else 8) else netE ps
def sumD (ps : List (Int × Int × Int)) : List (Int × Int × Int) := if sumE ps = 0 then sumL (standF ps) 31 else []
def SumRes (w : World) (ps : List (Int × Int × Int)) (e : Ending) (w' : World) : Prop := ∃ dv, e = .returned (.tuple #[dv, .int .i64 (sumE ps)]) ∧ OwnsT 94 w' w.heap.size dv (sumD ps) ∧ Kpt w w'
theorem sumRes_nil {w w' : World} {ps : List (Int × Int × Int)} {E : Int} (h : sumE ps = E) (h0 : E ≠ 0) (k : Kpt w w') : SumRes w ps (.returned (.tuple #[.slice none 0 0, .int .i64 E])) w' := by
  refine ⟨_, by rw [h], ?_, k⟩
  unfold sumD; rw [h, if_neg h0]; exact OwnsT.nil _ _ _
theorem sumRes_ok {w w' : World} {ps : List (Int × Int × Int)} {M : Nat} {dv : Value} (h : sumE ps = 0) (ho : OwnsT 94 w' M dv (sumL (standF ps) 31)) (hM : w.heap.size ≤ M) (k : Kpt w w') : SumRes w ps (.returned (.tuple #[dv, .int .i64 0])) w' := by
  refine ⟨_, by rw [h], ?_, k⟩
  unfold sumD; rw [if_pos h]
  refine ⟨ho.1, ?_⟩
  rcases ho.2 with h2 | ⟨g, cap, cur, rfl, hg, r⟩
  · exact .inl h2
  · exact .inr ⟨g, cap, cur, rfl, Nat.le_trans hM hg, r⟩

/-- what Stand answers, whatever it is handed -/
def StandRes (w : World) (ps : List (Int × Int × Int)) (e : Ending) (w' : World) : Prop :=
  Kpt w w' ∧ ((netE ps ≠ 0 ∧ e = .returned (.tuple #[.slice none 0 0, .int .i64 (netE ps)])) ∨
    (netE ps = 0 ∧ (List.range 31).all (fun u => amtB (standF ps u)) = true ∧ ∃ g, w.heap.size ≤ g ∧ e = .returned (.tuple #[.slice (some ⟨g, 0, none⟩) 31 31, .int .i64 0]) ∧ Row w' g ((List.range 31).map (standF ps))) ∨
    (netE ps = 0 ∧ (List.range 31).all (fun u => amtB (standF ps u)) = false ∧ e = .returned (.tuple #[.slice none 0 0, .int .i64 8])))
theorem stand_none (a : Option Addr) (cap : Nat) (w : World) (hr : ReadsP w (.slice a 0 cap) []) : Calls Try.prog 115 #[.slice a 0 cap] w fun e w' => ∃ w1, Grew w w1 ∧ AmtsEnd w1 31 (standF []) e w' := by
  have C := Lib.hid (netCheck_any (.slice a 0 cap) [] w hr)
  have e : netE [] = 0 := by decide
  rw [e] at C
  go_enter Try.func115, Try.ntmps115
  go_wp2_with (go_at_call 136; (with_reducible refine C.out.mono ?_); rintro e w0 ⟨rfl, g0⟩; have G0 := Lib.hid g0; clear g0)
  go_loopw [15] (fun i wr => i = .int .i64 0 ∧ Hid (Blk wr w0.heap.size (sumsC 31 (standF [])) 165) ∧ Hid (Grew w0 wr)) (fun _ _ => 0)
  case atStart => exact ⟨rfl, stand_made w0, (Grew.refl _).alloc _ _⟩
  case round =>
    obtain ⟨rfl, HB, HG⟩ := hrel
    have AM := Lib.hid (amounts_run w0.heap.size 31 31 (standF []) 165 wr (by omega) HB.out)
    have GG := Lib.hid (gtr G0.out HG.out)
    go_wp2_with (go_at_call 137; (with_reducible refine AM.out.mono ?_); rintro e w9 h9; have G9 := Lib.hid h9.1; rcases h9.2 with ⟨ha, g, hg, rfl, hrow⟩ | ⟨ha, rfl⟩ <;> (have H9 := Lib.hid ha; clear ha h9))
    · go_ret2
      exact ⟨wr, GG.out, G9.out, .inl ⟨H9.out, g, hg, rfl, hrow⟩⟩
    · go_ret2
      exact ⟨wr, GG.out, G9.out, .inr ⟨H9.out, rfl⟩⟩
theorem dueE_all : ∀ {l : List (Int × Int × Int)}, dueE l = 0 → ∀ p ∈ l, dueB p = true
  | [], _, p, hp => by cases hp
  | q :: l, h, p, hp => by
    unfold dueE at h
    split at h
    · rename_i hb
      split at h
      · cases h
      · rcases List.mem_cons.1 hp with rfl | hp
        · exact hb
        · exact dueE_all h p hp
    · cases h
theorem stand_any (v : Value) (ps : List (Int × Int × Int)) (w : World) (hr : ReadsP w v ps) : Calls Try.prog 115 #[v] w (StandRes w ps) := by
  by_cases hE : netE ps = 0
  · have main : Calls Try.prog 115 #[v] w fun e w' => ∃ w1, Grew w w1 ∧ AmtsEnd w1 31 (standF ps) e w' := by
      rcases hr.cell with ⟨rfl, a, cap, rfl⟩ | ⟨_, b, off, cap, rfl, hc⟩
      · exact stand_none a cap w hr
      · have h60 : ps.length ≤ 60 := by
          unfold netE at hE; split at hE
          · cases hE
          · omega
        have hd : dueE ps = 0 := by unfold netE at hE; rwa [if_neg (by omega)] at hE
        exact stand_some b off cap ps w hr hE h60 (dueE_all hd) hc
    refine main.mono ?_
    rintro e w' ⟨w1, g1, g2, h⟩
    refine ⟨(gtr g1 g2).kpt, .inr ?_⟩
    rcases h with ⟨ha, g, hg, rfl, hrow⟩ | ⟨⟨u, hu, ha⟩, rfl⟩
    · exact .inl ⟨hE, List.all_eq_true.2 (fun u hu => ha u (List.mem_range.1 hu)), g, Nat.le_trans g1.below.size hg, rfl, hrow⟩
    · refine .inr ⟨hE, ?_, rfl⟩
      cases hx : (List.range 31).all (fun u => amtB (standF ps u)) with
      | false => rfl
      | true =>
        have := List.all_eq_true.1 hx u (List.mem_range.2 hu)
        rw [ha] at this; cases this
  · refine (stand_bad v ps w hr hE).mono ?_
    rintro e w' ⟨rfl, g⟩
    exact ⟨g.kpt, .inl ⟨hE, rfl⟩⟩

set_option maxHeartbeats 2000000 in
set_option maxRecDepth 100000 in
theorem sum_any (v : Value) (ps : List (Int × Int × Int)) (w : World) (hr : ReadsP w v ps) : Calls Try.prog 72 #[v] w (SumRes w ps) := by
  have ST := Lib.hid (stand_any v ps w hr)
  clear hr
  by_cases hE : netE ps = 0
  · cases hA : (List.range 31).all (fun u => amtB (standF ps u)) with
    | true =>
      have ST1 : Hid (Calls Try.prog 115 #[v] w fun e w' => Kpt w w' ∧ ∃ g, w.heap.size ≤ g ∧ e = .returned (.tuple #[.slice (some ⟨g, 0, none⟩) 31 31, .int .i64 0]) ∧ Row w' g ((List.range 31).map (standF ps))) := by
        refine ST.out.mono ?_
        rintro e w' ⟨k, h | ⟨_, _, g, hg, rfl, hrow⟩ | h⟩
        · exact absurd hE h.1
        · exact ⟨k, g, hg, rfl, hrow⟩
        · rw [hA] at h; exact absurd h.2.1 (by decide)
      have HS : Hid (sumE ps = if sumL (standF ps) 31 = [] then 5 else 0) := by unfold Hid sumE; rw [if_pos hE, if_pos hA]
      have HAM : Hid (∀ u, u < 31 → amtB (standF ps u) = true) := fun u hu => List.all_eq_true.1 hA u (List.mem_range.2 hu)
      clear ST hA hE
      have HO : Hid (∀ w' M dv, sumE ps = 0 → OwnsT 94 w' M dv (sumL (standF ps) 31) → w.heap.size ≤ M → Kpt w w' → SumRes w ps (.returned (.tuple #[dv, .int .i64 0])) w') := fun w' M dv h1 h2 h3 h4 => sumRes_ok h1 h2 h3 h4
      have HN : Hid (∀ w', sumE ps = 5 → Kpt w w' → SumRes w ps (.returned (.tuple #[.slice none 0 0, .int .i64 5])) w') := fun w' h1 h2 => sumRes_nil h1 (by decide) h2
      generalize standF ps = f at *
      go_enter Try.func72, Try.ntmps72
      go_wp2_with (go_at_call 115; (with_reducible refine ST1.out.mono ?_); rintro e w1 ⟨k1, g, hg, rfl, hrow⟩; have K1 := Lib.hid k1; have R1 := Lib.hid hrow; clear k1 hrow)
      go_loopw [6, 19] (fun dv i wr => ∃ k : Nat, k ≤ 31 ∧ i = .int .i64 k ∧ Hid (OwnsT 94 wr w1.heap.size dv (sumL f k)) ∧ Hid (Kpt w1 wr)) (fun _ i _ => 31 - (intOf i).toNat)
      case atStart => exact ⟨0, Nat.zero_le _, rfl, OwnsT.nil _ _ _, Kpt.refl _⟩
      case round =>
        obtain ⟨k, hk, rfl, HOW, HK⟩ := hrel
        by_cases hlt : k < 31
        · have c0 : wr.cell? ⟨g, k, none⟩ = some (.int .i64 (f k)) := by
            have h := (R1.out.below HK.out R1.out.lt).cell (j := k) (by simpa using hlt)
            rw [List.getD_eq_getElem?_getD] at h
            simpa [hlt] using h
          have ham := amt_t (HAM.out k hlt)
          have hst : sumL f (k + 1) = if f k = 0 then sumL f k else sumL f k ++ [((k : Int), 0, f k)] := rfl
          have hll := sumL_len f k
          generalize f k = z at c0 ham hst
          have k31 : (k : Int) < 31 := by omega
          by_cases hz : z = 0
          · rw [if_pos hz] at hst
            have HST := Lib.hid hst
            have q : (z != 0) = false := by simpa using hz
            clear hst
            go_wp2
            go_roundw
            case rel => exact ⟨k + 1, by omega, by go_num, by unfold Hid; rw [HST.out]; exact HOW.out, HK.out⟩
            case measure => simp [intOf]; omega
          · rw [if_neg hz] at hst
            have HST := Lib.hid hst
            have q : (z != 0) = true := by simpa using hz
            have e1000 : (sumL f k).length + 1 ≤ 100000 := by omega
            clear hst
            go_wp2_with (first | (refine wp_appendQ rfl (.tmp 26) (.tmp 30) rfl w1.heap.size _ (sumL f k) _ _ _ _ rfl HOW.out rfl e1000 HK.out.size ?_; intro dv2 w5 o5 b5; have O5 := Lib.hid o5; have K5 : Hid (Kpt w1 w5) := Below.trans HK.out b5; clear o5 b5))
            go_roundw
            case rel => exact ⟨k + 1, by omega, by go_num, by unfold Hid; rw [HST.out]; exact O5.out, K5.out⟩
            case measure => simp [intOf]; omega
        · obtain rfl : k = 31 := by omega
          have KK := Lib.hid (ktr K1.out HK.out)
          obtain ⟨a9, n9, c9, rfl, HNL⟩ := HOW.out.formN
          by_cases hz : sumL f 31 = []
          · have HS5 : Hid (sumE ps = 5) := by unfold Hid; rw [HS.out, if_pos hz]
            obtain rfl : n9 = 0 := by rw [HNL.out, hz]; rfl
            clear hz
            go_wp2
            go_ret2
            exact HN.out _ HS5.out KK.out
          · have HS0 : Hid (sumE ps = 0) := by unfold Hid; rw [HS.out, if_neg hz]
            have hn0 : n9 ≠ 0 := by rw [HNL.out]; exact fun e => hz (List.eq_nil_of_length_eq_zero e)
            have q : ((n9 : Int) == 0) = false := by simpa using hn0
            clear hz hn0
            go_wp2
            go_ret2
            exact HO.out _ _ _ HS0.out HOW.out K1.out.size KK.out
    | false =>
      have ST1 : Hid (Calls Try.prog 115 #[v] w fun e w' => Kpt w w' ∧ e = .returned (.tuple #[.slice none 0 0, .int .i64 8])) := by
        refine ST.out.mono ?_
        rintro e w' ⟨k, h | ⟨_, h, _⟩ | h⟩
        · exact absurd hE h.1
        · rw [hA] at h; exact absurd h (by decide)
        · exact ⟨k, h.2.2⟩
      have HS : Hid (sumE ps = 8) := by unfold Hid sumE; rw [if_pos hE, if_neg (by rw [hA]; decide)]
      clear ST hA hE
      go_enter Try.func72, Try.ntmps72
      go_wp2_with (go_at_call 115; (with_reducible refine ST1.out.mono ?_); rintro e w1 ⟨k1, rfl⟩; have K1 := Lib.hid k1; clear k1)
      go_ret2
      exact sumRes_nil HS.out (by decide) K1.out
  · have ST1 : Hid (Calls Try.prog 115 #[v] w fun e w' => Kpt w w' ∧ e = .returned (.tuple #[.slice none 0 0, .int .i64 (netE ps)])) := by
      refine ST.out.mono ?_
      rintro e w' ⟨k, h | h | h⟩
      · exact ⟨k, h.2⟩
      · exact absurd h.1 hE
      · exact absurd h.1 hE
    have HS : Hid (sumE ps = netE ps) := by unfold Hid sumE; rw [if_neg hE]
    clear ST
    have q : (netE ps != 0) = true := by simpa using hE
    generalize netE ps = E at *
    go_enter Try.func72, Try.ntmps72
    go_wp2_with (go_at_call 115; (with_reducible refine ST1.out.mono ?_); rintro e w1 ⟨k1, rfl⟩; have K1 := Lib.hid k1; clear k1)
    go_ret2
    exact sumRes_nil HS.out hE K1.out

end Go.Proofs.Ytgccipmeiceonaa

-- PenB
namespace Go.Proofs.Ytgccipmeiceonaa
open Go.RowKit
set_option linter.unusedVariables false

theorem Try.infoTmB : (Try.prog.info? 78).map (fun i => (i.zero, i.size, i.bytes)) = some (some (.agg #[.int .i64 0, .int .i64 0, .int .i64 0, .int .i64 0]), 4, 32) := by kernel_rfl
/-- the terms of the first k classes are laid -/
def tmA (k : Nat) : Array Value := Array.ofFn (n := 24) fun i => .int .i64 (if i.val < 4 * k then [4, 7, 2, 100].getD (i.val % 4) 0 else 0)
theorem run_tms (w : World) : (Instr.makeSlice 25 (.int .i64 6) (.int .i64 6)).run Try.prog w = .ok (.slice (some ⟨w.heap.size, 0, none⟩) 6 6) (w.alloc (.cells (tmA 0) 78)) := by
  obtain ⟨i0, hi, hz0, hz1, hz2⟩ := info_parts Try.infoTmB
  have := run_make (P := Try.prog) w 25 78 i0 _ Try.underlying25 hi hz0 .i64 .i64 6 6 (by omega) (by omega) (by rw [hz2]; omega) (by omega)
  rw [hz1] at this
  have e : madeCells (Value.agg #[.int .i64 0, .int .i64 0, .int .i64 0, .int .i64 0]).cells ((6 : Int).toNat * 4) = tmA 0 := by kernel_rfl
  rw [e] at this
  exact this
def clsT : List (List Int) := List.replicate 6 [4, 7, 2, 100]
theorem tm_some (k i : Nat) (h : i < 24) : ∃ u, (tmA k)[i]? = some u := ⟨_, Array.getElem?_eq_getElem (by unfold tmA; simpa using h)⟩
def tmV : Array Value := #[.int .i64 4, .int .i64 7, .int .i64 2, .int .i64 100]
theorem tm_put : ∀ k, k < 6 → putL (tmA k) (k * 4) tmV.toList = tmA (k + 1) := by
  intro k hk
  rcases (show k = 0 ∨ k = 1 ∨ k = 2 ∨ k = 3 ∨ k = 4 ∨ k = 5 by omega) with rfl | rfl | rfl | rfl | rfl | rfl <;> kernel_rfl
theorem tm_one : tmV.all (·.oneCell') = true := by simp [tmV, Value.oneCell']
theorem tm_size : (Try.prog.info? 78).map (·.size) = some tmV.size := by kernel_rfl
theorem tm_there {w : World} {g k : Nat} (hk : k < 6) (h : Blk w g (tmA k) 78) : w.there g (k * 4) tmV.size := fun i hi => by
  have hi4 : i < 4 := hi
  obtain ⟨u, hu⟩ := tm_some k (k * 4 + i) (by omega)
  exact ⟨by rw [h.cell, hu]; rfl, h.frozen _⟩
theorem tm_at : ∀ k j, k < 6 → j < 4 → (tmA 6)[k * 4 + j]? = some (.int .i64 ((clsT.getD k []).getD j 0)) := by
  intro k j hk hj
  rcases (show k = 0 ∨ k = 1 ∨ k = 2 ∨ k = 3 ∨ k = 4 ∨ k = 5 by omega) with rfl | rfl | rfl | rfl | rfl | rfl <;> rcases (show j = 0 ∨ j = 1 ∨ j = 2 ∨ j = 3 by omega) with rfl | rfl | rfl | rfl <;> kernel_rfl

theorem tm_laid {w : World} {g k : Nat} (hk : k < 6) (h : Blk w g (tmA k) 78) : Blk (w.setCells g (k * 4) tmV.toList) g (tmA (k + 1)) 78 := by
  have := heap_setCells tmV.toList (k * 4) h
  rw [tm_put k hk] at this
  exact this
set_option maxHeartbeats 400000 in
theorem classes_run (w : World) : Calls Try.prog 70 #[] w fun e w' => ∃ v, e = .returned v ∧ ReadsT w' v clsT ∧ Kpt w w' := by
  have MK := run_tms w
  go_enter Try.func70, Try.ntmps70
  go_wp2
  go_loopw [2] (fun i wr => ∃ k : Nat, k ≤ 6 ∧ i = .int .i64 k ∧ Hid (Blk wr w.heap.size (tmA k) 78) ∧ Hid (Kpt w wr)) (fun i _ => 6 - (intOf i).toNat)
  case atStart => exact ⟨0, Nat.zero_le _, rfl, Blk.made w _ _, (Kpt.refl w).alloc _⟩
  case round =>
    obtain ⟨k, hk, rfl, HB, HK⟩ := hrel
    clear MK
    by_cases hlt : k < 6
    · have k0 : (k : Int) < 6 := by omega
      go_wp2_with (first
        | (go_at_call 114; (with_reducible refine (someT_run _).mono ?_); rintro z w2 ⟨rfl, k2⟩; have B2 := Lib.hid (HB.out.kpt k2); have K2 := Lib.hid (ktr HK.out k2); clear k2)
        | (refine wpList_store_mid rfl 78 (.tmp 13) (.tmp 12) rfl w.heap.size (k * 4) tmV rfl rfl (tm_there hlt B2.out) tm_size tm_one ?_; have B3 := Lib.hid (tm_laid hlt B2.out); have K3 := Lib.hid (Kpt.setCells K2.out (Nat.le_refl w.heap.size) (k * 4) tmV.toList); generalize World.setCells w2 w.heap.size (k * 4) tmV.toList = w3 at B3 K3 ⊢))
      go_roundw
      case rel => exact ⟨k + 1, by omega, by go_num, B3.out, K3.out⟩
      case measure => simp [intOf]; omega
    · obtain rfl : k = 6 := by omega
      go_wp2
      go_ret
      refine ⟨_, rfl, ⟨_, 6, rfl, by decide, fun k hk => ⟨w.heap.size, 0, rfl, fun j hj => ?_⟩⟩, HK.out⟩
      rw [Nat.zero_add, HB.out.cell]
      exact tm_at k j hk hj

end Go.Proofs.Ytgccipmeiceonaa

-- PenE
namespace Go.Proofs.Ytgccipmeiceonaa
open Go.RowKit
set_option linter.unusedVariables false

def fl0 : List Int := [7, 1, 2, 0, 3, 739935, 3000, 0, 0, 0]
theorem pb_lkE : lkE 96 wkH 4 7 2 100 7 1 2 0 3 739935 3000 0 0 0 739937 = 0 := by
  unfold lkE; rw [if_pos ab_ct, if_pos (by decide), if_pos (by decide)]; exact ab_w
theorem pb_lk : lkL 96 wkH (tlOf clsT fl0) fl0 739937 = 0 := pb_lkE
theorem pb_st : stL 96 wkH (tlOf clsT fl0) fl0 739937 = 1 := by
  show stgR 96 wkH 4 7 2 100 7 1 2 0 3 739935 3000 0 0 0 739937 = 1
  unfold stgR; rw [if_pos pb_lkE, ab_d1, ab_d2, ab_d3]; decide
theorem pb_cs : csV 96 wkH (tlOf clsT fl0) fl0 (prOf (tenL 20) fl0) 739937 = 3 := by
  unfold csV csL; rw [if_pos pb_lk, pb_st, if_neg (by decide)]; decide +kernel
theorem pb_pre : preE 96 wkH clsT [fl0] (tenL 20) 739937 = 0 := by
  unfold preE; rw [ab_cal]; decide +kernel
theorem pb_pd : pdE 96 wkH clsT 739937 [fl0] = 0 := (pd_0 pb_lk).trans rfl
theorem pb_dl : dueL 96 wkH clsT (tenL 20) 739937 [fl0] = [(1, 2, 3)] := by
  rw [dueL_p pb_lk (by rw [pb_cs]; decide), pb_cs]; rfl
theorem pb_E : dayE 96 wkH clsT [fl0] (tenL 20) 739937 = 0 := by
  rw [(day_B pb_pre).1, pb_pd]
theorem pb_D : dayD 96 wkH clsT [fl0] (tenL 20) 739937 = [(1, 2, 3)] := by
  rw [(day_B pb_pre).2, if_pos pb_pd, pb_dl]
theorem pb_E2 : dayE 96 wkH clsT [] (tenL 20) 739936 = 4 := by
  have h : preE 96 wkH clsT [] (tenL 20) 739936 = 4 := by unfold preE; rw [ab_cal]; decide +kernel
  rw [(day_A (by rw [h]; decide)).1, h]
theorem pb_sE : sumE [(1, 2, 3)] = 0 := by decide +kernel
theorem pb_sD : sumD [(1, 2, 3)] = [(1, 0, -3), (2, 0, 3)] := by decide +kernel
theorem pb_s0 : sumE [] = 5 := by decide +kernel
theorem pb_dly : dlyQ 3000 100000 100 = 3 ∧ dlyE 3000 100000 100 = 0 := by decide +kernel

end Go.Proofs.Ytgccipmeiceonaa

-- PenW
namespace Go.Proofs.Ytgccipmeiceonaa
open Go.RowKit
set_option linter.unusedVariables false

theorem rf_one {w : World} {g : Nat} (h : Blk w g #[.int .i64 7, .int .i64 1, .int .i64 2, .int .i64 0, .int .i64 3, .int .i64 739935, .int .i64 3000, .int .i64 0, .int .i64 0, .int .i64 0] 38) : ReadsF w (.slice (some ⟨g, 0, none⟩) 1 1) [fl0] := by
  refine ⟨_, 1, rfl, by decide, fun l hl => ?_, fun k hk => ⟨g, 0, rfl, ?_⟩⟩
  · rw [List.mem_singleton.1 hl]; unfold FlB fl0; decide
  · obtain rfl : k = 0 := by simpa using hk
    intro j hj
    rcases (show j = 0 ∨ j = 1 ∨ j = 2 ∨ j = 3 ∨ j = 4 ∨ j = 5 ∨ j = 6 ∨ j = 7 ∨ j = 8 ∨ j = 9 by omega) with rfl | rfl | rfl | rfl | rfl | rfl | rfl | rfl | rfl | rfl <;> exact h.cell _

theorem inp_two : InP [((1 : Int), (0 : Int), (-3 : Int)), (2, 0, 3)] := by
  intro p hp
  rcases List.mem_cons.1 hp with rfl | hp
  · decide
  · rw [List.mem_singleton.1 hp]; decide
theorem rp_one {w : World} {g : Nat} {T : TypeId} (h : Blk w g #[.int .i64 1, .int .i64 2, .int .i64 3] T) : ReadsP w (.slice (some ⟨g, 0, none⟩) 1 1) [(1, 2, 3)] := by
  refine ⟨_, 1, rfl, (fun e => by cases e), (by decide), (fun p hp => by rw [List.mem_singleton.1 hp]; decide), fun j hj => ⟨g, 0, rfl, ?_⟩⟩
  obtain rfl : j = 0 := by simpa using hj
  exact ⟨h.cell _, h.cell _, h.cell _⟩
theorem rp_two {w : World} {g : Nat} {T : TypeId} (h : Blk w g #[.int .i64 1, .int .i64 0, .int .i64 (-3), .int .i64 2, .int .i64 0, .int .i64 3] T) : ReadsP w (.slice (some ⟨g, 0, none⟩) 2 2) [(1, 0, -3), (2, 0, 3)] := by
  refine ⟨_, 2, rfl, (fun e => by cases e), (by decide), inp_two, fun j hj => ⟨g, 0, rfl, ?_⟩⟩
  rcases (show j = 0 ∨ j = 1 by have : j < 2 := hj; omega) with rfl | rfl
  · exact ⟨h.cell _, h.cell _, h.cell _⟩
  · exact ⟨h.cell _, h.cell _, h.cell _⟩

set_option maxRecDepth 100000 in
set_option maxHeartbeats 1000000 in
theorem penaltyBegun (w : World) : Calls Try.prog 11 #[] w fun e w' => e = .returned (.bool true) ∧ Kpt w w' := by
  have DY := Lib.hid (fun w' => daily_any 3000 100000 100 w')
  rw [pb_dly.1, pb_dly.2] at DY
  have SF := Lib.hid (fun w' => someF_run w')
  go_enter Try.func11, Try.ntmps11
  go_upto_region 4 with (first
    | (go_at_call 7; (with_reducible refine (DY.out _).mono ?_); rintro e w1 ⟨rfl, k1⟩; have K1 := Lib.hid k1; clear k1)
    | (go_at_call 68; (with_reducible refine (SF.out _).mono ?_); rintro e w2 ⟨rfl, k2⟩; have K2 := Lib.hid (ktr K1.out k2); clear k2; have ZB : Hid (Blk (w2.alloc (.cells #[.int .i64 0, .int .i64 0, .int .i64 0, .int .i64 0, .int .i64 0, .int .i64 0, .int .i64 0, .int .i64 0, .int .i64 0, .int .i64 0] 38)) w2.heap.size _ 38) := Blk.made w2 _ 38))
  have BX : Hid (Blk (w2.alloc (.cells #[.int .i64 7, .int .i64 1, .int .i64 2, .int .i64 0, .int .i64 3, .int .i64 739935, .int .i64 3000, .int .i64 0, .int .i64 0, .int .i64 0] 38)) w2.heap.size #[.int .i64 7, .int .i64 1, .int .i64 2, .int .i64 0, .int .i64 3, .int .i64 739935, .int .i64 3000, .int .i64 0, .int .i64 0, .int .i64 0] 38) := Blk.made w2 _ _
  have K0 : Hid (Kpt w (w2.alloc (.cells #[.int .i64 7, .int .i64 1, .int .i64 2, .int .i64 0, .int .i64 3, .int .i64 739935, .int .i64 3000, .int .i64 0, .int .i64 0, .int .i64 0] 38))) := Kpt.alloc K2.out _
  clear DY SF ZB K1 K2
  generalize w2.alloc (.cells #[.int .i64 7, .int .i64 1, .int .i64 2, .int .i64 0, .int .i64 3, .int .i64 739935, .int .i64 3000, .int .i64 0, .int .i64 0, .int .i64 0] 38) = W0 at BX K0 ⊢
  generalize w2.heap.size = B at BX ⊢
  go_cut [4, 5] from 18 to 26 (fun v4 v5 wc => v5 = .int .i64 0 ∧ Hid (ReadsP wc v4 [(1, 2, 3)]) ∧ Hid (Kpt w wc))
  case first =>
    have KA : Hid (Kpt W0 W0) := Kpt.refl _
    have DAY : Hid (∀ W vw tv lv pv, Reads W vw wkH → ReadsT W tv clsT → ReadsF W lv [fl0] → Reads W pv (tenL 20) → Calls Try.prog 8 #[calV 96 vw, tv, lv, pv, .int .i64 739937] W fun e w' => ∃ dv, e = .returned (.tuple #[dv, .int .i64 0]) ∧ ReadsP w' dv [(1, 2, 3)] ∧ Kpt W w') := fun W vw tv lv pv h1 h2 h3 h4 => by
      refine (day_any 96 739937 vw tv lv pv wkH clsT [fl0] (tenL 20) W h1 wk_fits h2 h3 h4).mono ?_
      rintro e w' ⟨dv, rfl, ho, hk⟩
      rw [pb_E]
      rw [pb_D] at ho
      exact ⟨dv, rfl, ho.reads (fun p hp => by rw [List.mem_singleton.1 hp]; decide), hk⟩
    have x0 : World.cell? W0 ⟨B, 0, none⟩ = some (.int .i64 7) := BX.out.cell 0
    have x1 : World.cell? W0 ⟨B, 1, none⟩ = some (.int .i64 1) := BX.out.cell 1
    have x2 : World.cell? W0 ⟨B, 2, none⟩ = some (.int .i64 2) := BX.out.cell 2
    have x3 : World.cell? W0 ⟨B, 3, none⟩ = some (.int .i64 0) := BX.out.cell 3
    have x4 : World.cell? W0 ⟨B, 4, none⟩ = some (.int .i64 3) := BX.out.cell 4
    have x5 : World.cell? W0 ⟨B, 5, none⟩ = some (.int .i64 739935) := BX.out.cell 5
    have x6 : World.cell? W0 ⟨B, 6, none⟩ = some (.int .i64 3000) := BX.out.cell 6
    have x7 : World.cell? W0 ⟨B, 7, none⟩ = some (.int .i64 0) := BX.out.cell 7
    have x8 : World.cell? W0 ⟨B, 8, none⟩ = some (.int .i64 0) := BX.out.cell 8
    have x9 : World.cell? W0 ⟨B, 9, none⟩ = some (.int .i64 0) := BX.out.cell 9
    go_region_held3 (fun w' => World.cell? w' ⟨B, 0, none⟩ = some (.int .i64 7) ∧ World.cell? w' ⟨B, 1, none⟩ = some (.int .i64 1) ∧ World.cell? w' ⟨B, 2, none⟩ = some (.int .i64 2) ∧ World.cell? w' ⟨B, 3, none⟩ = some (.int .i64 0) ∧ World.cell? w' ⟨B, 4, none⟩ = some (.int .i64 3) ∧ World.cell? w' ⟨B, 5, none⟩ = some (.int .i64 739935) ∧ World.cell? w' ⟨B, 6, none⟩ = some (.int .i64 3000) ∧ World.cell? w' ⟨B, 7, none⟩ = some (.int .i64 0) ∧ World.cell? w' ⟨B, 8, none⟩ = some (.int .i64 0) ∧ World.cell? w' ⟨B, 9, none⟩ = some (.int .i64 0))
      (first
        | go_keep
        | (exact ⟨x0, x1, x2, x3, x4, x5, x6, x7, x8, x9⟩))
      (first
      | (go_at_call 69; (with_reducible refine (week_any _).mono ?_); rintro z wa ⟨vw, rfl, rd, kk⟩; have HWK := Lib.hid rd; have KB : Hid (Kpt W0 wa) := ktr KA.out (by first | exact kk | exact ktr ((Kpt.refl _).drewN 1) kk | exact ktr ((Kpt.refl _).alloc _) kk | exact ktr (((Kpt.refl _).drewN 1).alloc _) kk | exact ktr (((Kpt.refl _).alloc _).drewN 1) kk); have KA := KB; have x0 : World.cell? wa ⟨B, 0, none⟩ = some (.int .i64 7) := (BX.out.kpt KA.out).cell 0; have x1 : World.cell? wa ⟨B, 1, none⟩ = some (.int .i64 1) := (BX.out.kpt KA.out).cell 1; have x2 : World.cell? wa ⟨B, 2, none⟩ = some (.int .i64 2) := (BX.out.kpt KA.out).cell 2; have x3 : World.cell? wa ⟨B, 3, none⟩ = some (.int .i64 0) := (BX.out.kpt KA.out).cell 3; have x4 : World.cell? wa ⟨B, 4, none⟩ = some (.int .i64 3) := (BX.out.kpt KA.out).cell 4; have x5 : World.cell? wa ⟨B, 5, none⟩ = some (.int .i64 739935) := (BX.out.kpt KA.out).cell 5; have x6 : World.cell? wa ⟨B, 6, none⟩ = some (.int .i64 3000) := (BX.out.kpt KA.out).cell 6; have x7 : World.cell? wa ⟨B, 7, none⟩ = some (.int .i64 0) := (BX.out.kpt KA.out).cell 7; have x8 : World.cell? wa ⟨B, 8, none⟩ = some (.int .i64 0) := (BX.out.kpt KA.out).cell 8; have x9 : World.cell? wa ⟨B, 9, none⟩ = some (.int .i64 0) := (BX.out.kpt KA.out).cell 9; (first | have BL : Hid (Blk wa W0.heap.size #[.int .i64 7, .int .i64 1, .int .i64 2, .int .i64 0, .int .i64 3, .int .i64 739935, .int .i64 3000, .int .i64 0, .int .i64 0, .int .i64 0] 38) := Lib.hid ((Blk.made _ #[.int .i64 7, .int .i64 1, .int .i64 2, .int .i64 0, .int .i64 3, .int .i64 739935, .int .i64 3000, .int .i64 0, .int .i64 0, .int .i64 0] 38).kpt kk) | have BL : Hid (Blk wa W0.heap.size #[.int .i64 7, .int .i64 1, .int .i64 2, .int .i64 0, .int .i64 3, .int .i64 739935, .int .i64 3000, .int .i64 0, .int .i64 0, .int .i64 0] 38) := Lib.hid (((Blk.made _ #[.int .i64 7, .int .i64 1, .int .i64 2, .int .i64 0, .int .i64 3, .int .i64 739935, .int .i64 3000, .int .i64 0, .int .i64 0, .int .i64 0] 38).drew).kpt kk) | have BL : Hid (Blk wa W0.heap.size #[.int .i64 7, .int .i64 1, .int .i64 2, .int .i64 0, .int .i64 3, .int .i64 739935, .int .i64 3000, .int .i64 0, .int .i64 0, .int .i64 0] 38) := Lib.hid ((Blk.made _ #[.int .i64 7, .int .i64 1, .int .i64 2, .int .i64 0, .int .i64 3, .int .i64 739935, .int .i64 3000, .int .i64 0, .int .i64 0, .int .i64 0] 38).kpt (ktr ((Kpt.refl _).drewN 1) kk)) | skip); clear rd kk)
      | (go_at_call 70; (with_reducible refine (classes_run _).mono ?_); rintro z wb ⟨tv, rfl, rd, kk⟩; have HCL := Lib.hid rd; have KB : Hid (Kpt W0 wb) := ktr KA.out (by first | exact kk | exact ktr ((Kpt.refl _).drewN 1) kk | exact ktr ((Kpt.refl _).alloc _) kk | exact ktr (((Kpt.refl _).drewN 1).alloc _) kk | exact ktr (((Kpt.refl _).alloc _).drewN 1) kk); have KA := KB; have HWK := Lib.hid (HWK.out.kpt (by first | exact kk | exact ktr ((Kpt.refl _).drewN 1) kk | exact ktr ((Kpt.refl _).alloc _) kk | exact ktr (((Kpt.refl _).drewN 1).alloc _) kk | exact ktr (((Kpt.refl _).alloc _).drewN 1) kk)); have x0 : World.cell? wb ⟨B, 0, none⟩ = some (.int .i64 7) := (BX.out.kpt KA.out).cell 0; have x1 : World.cell? wb ⟨B, 1, none⟩ = some (.int .i64 1) := (BX.out.kpt KA.out).cell 1; have x2 : World.cell? wb ⟨B, 2, none⟩ = some (.int .i64 2) := (BX.out.kpt KA.out).cell 2; have x3 : World.cell? wb ⟨B, 3, none⟩ = some (.int .i64 0) := (BX.out.kpt KA.out).cell 3; have x4 : World.cell? wb ⟨B, 4, none⟩ = some (.int .i64 3) := (BX.out.kpt KA.out).cell 4; have x5 : World.cell? wb ⟨B, 5, none⟩ = some (.int .i64 739935) := (BX.out.kpt KA.out).cell 5; have x6 : World.cell? wb ⟨B, 6, none⟩ = some (.int .i64 3000) := (BX.out.kpt KA.out).cell 6; have x7 : World.cell? wb ⟨B, 7, none⟩ = some (.int .i64 0) := (BX.out.kpt KA.out).cell 7; have x8 : World.cell? wb ⟨B, 8, none⟩ = some (.int .i64 0) := (BX.out.kpt KA.out).cell 8; have x9 : World.cell? wb ⟨B, 9, none⟩ = some (.int .i64 0) := (BX.out.kpt KA.out).cell 9; (first | have BL := Lib.hid (BL.out.kpt (by first | exact kk | exact ktr ((Kpt.refl _).drewN 1) kk | exact ktr ((Kpt.refl _).alloc _) kk | exact ktr (((Kpt.refl _).drewN 1).alloc _) kk | exact ktr (((Kpt.refl _).alloc _).drewN 1) kk)) | have BL : Hid (Blk wb wa.heap.size #[.int .i64 7, .int .i64 1, .int .i64 2, .int .i64 0, .int .i64 3, .int .i64 739935, .int .i64 3000, .int .i64 0, .int .i64 0, .int .i64 0] 38) := Lib.hid ((Blk.made _ #[.int .i64 7, .int .i64 1, .int .i64 2, .int .i64 0, .int .i64 3, .int .i64 739935, .int .i64 3000, .int .i64 0, .int .i64 0, .int .i64 0] 38).kpt kk) | have BL : Hid (Blk wb wa.heap.size #[.int .i64 7, .int .i64 1, .int .i64 2, .int .i64 0, .int .i64 3, .int .i64 739935, .int .i64 3000, .int .i64 0, .int .i64 0, .int .i64 0] 38) := Lib.hid (((Blk.made _ #[.int .i64 7, .int .i64 1, .int .i64 2, .int .i64 0, .int .i64 3, .int .i64 739935, .int .i64 3000, .int .i64 0, .int .i64 0, .int .i64 0] 38).drew).kpt kk) | have BL : Hid (Blk wb wa.heap.size #[.int .i64 7, .int .i64 1, .int .i64 2, .int .i64 0, .int .i64 3, .int .i64 739935, .int .i64 3000, .int .i64 0, .int .i64 0, .int .i64 0] 38) := Lib.hid ((Blk.made _ #[.int .i64 7, .int .i64 1, .int .i64 2, .int .i64 0, .int .i64 3, .int .i64 739935, .int .i64 3000, .int .i64 0, .int .i64 0, .int .i64 0] 38).kpt (ktr ((Kpt.refl _).drewN 1) kk)) | skip); clear rd kk)
      | (go_at_call 71; (with_reducible refine (tenEach_run _).mono ?_); rintro z wd ⟨pv, rfl, rd, kk⟩; have HTE := Lib.hid rd; have KB : Hid (Kpt W0 wd) := ktr KA.out (by first | exact kk | exact ktr ((Kpt.refl _).drewN 1) kk | exact ktr ((Kpt.refl _).alloc _) kk | exact ktr (((Kpt.refl _).drewN 1).alloc _) kk | exact ktr (((Kpt.refl _).alloc _).drewN 1) kk); have KA := KB; have HWK := Lib.hid (HWK.out.kpt (by first | exact kk | exact ktr ((Kpt.refl _).drewN 1) kk | exact ktr ((Kpt.refl _).alloc _) kk | exact ktr (((Kpt.refl _).drewN 1).alloc _) kk | exact ktr (((Kpt.refl _).alloc _).drewN 1) kk)); have HCL := Lib.hid (HCL.out.kpt (by first | exact kk | exact ktr ((Kpt.refl _).drewN 1) kk | exact ktr ((Kpt.refl _).alloc _) kk | exact ktr (((Kpt.refl _).drewN 1).alloc _) kk | exact ktr (((Kpt.refl _).alloc _).drewN 1) kk)); have x0 : World.cell? wd ⟨B, 0, none⟩ = some (.int .i64 7) := (BX.out.kpt KA.out).cell 0; have x1 : World.cell? wd ⟨B, 1, none⟩ = some (.int .i64 1) := (BX.out.kpt KA.out).cell 1; have x2 : World.cell? wd ⟨B, 2, none⟩ = some (.int .i64 2) := (BX.out.kpt KA.out).cell 2; have x3 : World.cell? wd ⟨B, 3, none⟩ = some (.int .i64 0) := (BX.out.kpt KA.out).cell 3; have x4 : World.cell? wd ⟨B, 4, none⟩ = some (.int .i64 3) := (BX.out.kpt KA.out).cell 4; have x5 : World.cell? wd ⟨B, 5, none⟩ = some (.int .i64 739935) := (BX.out.kpt KA.out).cell 5; have x6 : World.cell? wd ⟨B, 6, none⟩ = some (.int .i64 3000) := (BX.out.kpt KA.out).cell 6; have x7 : World.cell? wd ⟨B, 7, none⟩ = some (.int .i64 0) := (BX.out.kpt KA.out).cell 7; have x8 : World.cell? wd ⟨B, 8, none⟩ = some (.int .i64 0) := (BX.out.kpt KA.out).cell 8; have x9 : World.cell? wd ⟨B, 9, none⟩ = some (.int .i64 0) := (BX.out.kpt KA.out).cell 9; (first | have BL := Lib.hid (BL.out.kpt (by first | exact kk | exact ktr ((Kpt.refl _).drewN 1) kk | exact ktr ((Kpt.refl _).alloc _) kk | exact ktr (((Kpt.refl _).drewN 1).alloc _) kk | exact ktr (((Kpt.refl _).alloc _).drewN 1) kk)) | have BL : Hid (Blk wd wb.heap.size #[.int .i64 7, .int .i64 1, .int .i64 2, .int .i64 0, .int .i64 3, .int .i64 739935, .int .i64 3000, .int .i64 0, .int .i64 0, .int .i64 0] 38) := Lib.hid ((Blk.made _ #[.int .i64 7, .int .i64 1, .int .i64 2, .int .i64 0, .int .i64 3, .int .i64 739935, .int .i64 3000, .int .i64 0, .int .i64 0, .int .i64 0] 38).kpt kk) | have BL : Hid (Blk wd wb.heap.size #[.int .i64 7, .int .i64 1, .int .i64 2, .int .i64 0, .int .i64 3, .int .i64 739935, .int .i64 3000, .int .i64 0, .int .i64 0, .int .i64 0] 38) := Lib.hid (((Blk.made _ #[.int .i64 7, .int .i64 1, .int .i64 2, .int .i64 0, .int .i64 3, .int .i64 739935, .int .i64 3000, .int .i64 0, .int .i64 0, .int .i64 0] 38).drew).kpt kk) | have BL : Hid (Blk wd wb.heap.size #[.int .i64 7, .int .i64 1, .int .i64 2, .int .i64 0, .int .i64 3, .int .i64 739935, .int .i64 3000, .int .i64 0, .int .i64 0, .int .i64 0] 38) := Lib.hid ((Blk.made _ #[.int .i64 7, .int .i64 1, .int .i64 2, .int .i64 0, .int .i64 3, .int .i64 739935, .int .i64 3000, .int .i64 0, .int .i64 0, .int .i64 0] 38).kpt (ktr ((Kpt.refl _).drewN 1) kk)) | skip); clear rd kk)
      | (go_at_call 8; (first | (with_reducible refine (DAY.out _ _ _ _ _ HWK.out HCL.out (rf_one BL.out) HTE.out).mono ?_) | (with_reducible refine (DAY.out _ _ _ _ _ (HWK.out.kpt ((Kpt.refl _).alloc _)) (HCL.out.kpt ((Kpt.refl _).alloc _)) (rf_one (Blk.made _ #[.int .i64 7, .int .i64 1, .int .i64 2, .int .i64 0, .int .i64 3, .int .i64 739935, .int .i64 3000, .int .i64 0, .int .i64 0, .int .i64 0] 38)) (HTE.out.kpt ((Kpt.refl _).alloc _))).mono ?_)); rintro z we ⟨dv, rfl, rd, kk⟩; have HDV := Lib.hid rd; have KF : Hid (Kpt W0 we) := ktr KA.out (by first | exact kk | exact ktr ((Kpt.refl _).drewN 1) kk | exact ktr ((Kpt.refl _).alloc _) kk | exact ktr (((Kpt.refl _).drewN 1).alloc _) kk | exact ktr (((Kpt.refl _).alloc _).drewN 1) kk); have KA := KF; have KE : Hid (Kpt w we) := ktr K0.out KF.out; have x0 : World.cell? we ⟨B, 0, none⟩ = some (.int .i64 7) := (BX.out.kpt KA.out).cell 0; have x1 : World.cell? we ⟨B, 1, none⟩ = some (.int .i64 1) := (BX.out.kpt KA.out).cell 1; have x2 : World.cell? we ⟨B, 2, none⟩ = some (.int .i64 2) := (BX.out.kpt KA.out).cell 2; have x3 : World.cell? we ⟨B, 3, none⟩ = some (.int .i64 0) := (BX.out.kpt KA.out).cell 3; have x4 : World.cell? we ⟨B, 4, none⟩ = some (.int .i64 3) := (BX.out.kpt KA.out).cell 4; have x5 : World.cell? we ⟨B, 5, none⟩ = some (.int .i64 739935) := (BX.out.kpt KA.out).cell 5; have x6 : World.cell? we ⟨B, 6, none⟩ = some (.int .i64 3000) := (BX.out.kpt KA.out).cell 6; have x7 : World.cell? we ⟨B, 7, none⟩ = some (.int .i64 0) := (BX.out.kpt KA.out).cell 7; have x8 : World.cell? we ⟨B, 8, none⟩ = some (.int .i64 0) := (BX.out.kpt KA.out).cell 8; have x9 : World.cell? we ⟨B, 9, none⟩ = some (.int .i64 0) := (BX.out.kpt KA.out).cell 9; clear rd kk))
    all_goals go_wp2
    all_goals go_meet
    all_goals (case rel => exact ⟨rfl, HDV.out, KE.out⟩)
  case rest =>
  obtain ⟨rfl, hp, hk⟩ := hcut
  have HP := hp
  have KP := hk
  clear hp hk BX K0
  have HQ : Hid (ReadsP wc (.slice none 0 0) []) := readsP_nil _ none 0 (fun _ => rfl)
  have SM1 : Hid (∀ W v, ReadsP W v [(1, 2, 3)] → Calls Try.prog 72 #[v] W fun e w' => ∃ dv, e = .returned (.tuple #[dv, .int .i64 0]) ∧ ReadsP w' dv [(1, 0, -3), (2, 0, 3)] ∧ Kpt W w') := fun W v h => by
    refine (sum_any v _ W h).mono ?_
    rintro e w' ⟨dv, rfl, ho, hk⟩
    rw [pb_sE]
    rw [pb_sD] at ho
    exact ⟨dv, rfl, ho.reads inp_two, hk⟩
  have SM2 : Hid (∀ W, Calls Try.prog 72 #[.slice none 0 0] W fun e w' => ∃ dv, e = .returned (.tuple #[dv, .int .i64 5]) ∧ Kpt W w') := fun W => by
    refine (sum_any _ [] W (readsP_nil W none 0 (fun _ => rfl))).mono ?_
    rintro e w' ⟨dv, rfl, ho, hk⟩
    rw [pb_s0]
    exact ⟨dv, rfl, hk⟩
  have DY2 : Hid (∀ W vw tv pv, Reads W vw wkH → ReadsT W tv clsT → Reads W pv (tenL 20) → Calls Try.prog 8 #[calV 96 vw, tv, .slice none 0 0, pv, .int .i64 739936] W fun e w' => ∃ dv, e = .returned (.tuple #[dv, .int .i64 4]) ∧ Kpt W w') := fun W vw tv pv h1 h2 h4 => by
    refine (day_any 96 739936 vw tv (.slice none 0 0) pv wkH clsT [] (tenL 20) W h1 wk_fits h2 ⟨none, 0, rfl, Nat.zero_le _, (fun l hl => by cases hl), fun k hk => absurd hk (Nat.not_lt_zero k)⟩ h4).mono ?_
    rintro e w' ⟨dv, rfl, ho, hk⟩
    rw [pb_E2]
    exact ⟨dv, rfl, hk⟩
  have PR : Hid (∀ W, Calls Try.prog 12 #[.slice none 0 0] W fun e w' => e = .returned (.int .i64 1) ∧ W = w') := fun W => prices_run (.slice none 0 0) [] W (reads_nil W none 0)
  go_wp2_with (first
    | (go_at_call 72; (with_reducible refine (SM2.out _).mono ?_); rintro z wk ⟨dv4, rfl, kk⟩; have KP := Lib.hid (ktr KP.out kk); have HP := Lib.hid (HP.out.kpt kk); have HQ := Lib.hid (HQ.out.kpt kk); clear kk)
    | (go_at_call 72; (with_reducible refine (SM1.out _ _ HP.out).mono ?_); rintro z wf ⟨dv2, rfl, rd, kk⟩; have HQ := Lib.hid rd; have KP := Lib.hid (ktr KP.out kk); have HP := Lib.hid (HP.out.kpt kk); clear rd kk)
    | (go_at_call 69; (with_reducible refine (week_any _).mono ?_); rintro z wg ⟨vw2, rfl, rd, kk⟩; have HWK := Lib.hid rd; have KP := Lib.hid (ktr KP.out kk); have HP := Lib.hid (HP.out.kpt kk); have HQ := Lib.hid (HQ.out.kpt kk); clear rd kk)
    | (go_at_call 70; (with_reducible refine (classes_run _).mono ?_); rintro z wh ⟨tv2, rfl, rd, kk⟩; have HCL := Lib.hid rd; have HWK := Lib.hid (HWK.out.kpt kk); have KP := Lib.hid (ktr KP.out kk); have HP := Lib.hid (HP.out.kpt kk); have HQ := Lib.hid (HQ.out.kpt kk); clear rd kk)
    | (go_at_call 71; (with_reducible refine (tenEach_run _).mono ?_); rintro z wi ⟨pv2, rfl, rd, kk⟩; have HTE := Lib.hid rd; have HWK := Lib.hid (HWK.out.kpt kk); have HCL := Lib.hid (HCL.out.kpt kk); have KP := Lib.hid (ktr KP.out kk); have HP := Lib.hid (HP.out.kpt kk); have HQ := Lib.hid (HQ.out.kpt kk); clear rd kk)
    | (go_at_call 8; (with_reducible refine (DY2.out _ _ _ _ HWK.out HCL.out HTE.out).mono ?_); rintro z wj ⟨dv3, rfl, kk⟩; have KP := Lib.hid (ktr KP.out kk); have HP := Lib.hid (HP.out.kpt kk); have HQ := Lib.hid (HQ.out.kpt kk); clear kk)
    | (go_at_call 14; (with_reducible refine (sameD_any _ _ _ _ (HP.out.kpt ((Kpt.refl _).alloc _)) (rp_one (Blk.made _ _ _))).mono ?_); rintro z wl ⟨rfl, kk⟩; have KP := Lib.hid (ktr (KP.out.alloc _) kk); have HQ := Lib.hid ((HQ.out.kpt ((Kpt.refl _).alloc _)).kpt kk); clear kk)
    | (go_at_call 24; (with_reducible refine (sameP_any _ _ _ _ (HQ.out.kpt ((Kpt.refl _).alloc _)) (rp_two (Blk.made _ _ _))).mono ?_); rintro z wm ⟨rfl, kk⟩; have KP := Lib.hid (ktr (KP.out.alloc _) kk); clear kk)
    | (go_at_call 12; (with_reducible refine (PR.out _).mono ?_); rintro z wn ⟨rfl, rfl⟩))
  go_ret
  exact ⟨rfl, KP.out⟩

end Go.Proofs.Ytgccipmeiceonaa
