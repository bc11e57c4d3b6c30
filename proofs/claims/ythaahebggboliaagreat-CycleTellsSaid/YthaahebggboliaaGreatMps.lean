/-
  Merged: PenS, PenN, CycD.
-/
import Derived.Test.YthaahebggboliaaGreatMg
import Derived.Test.YthaahebggboliaaGreatMp3
import Derived.Test.YthaahebggboliaaGreatMf2
import Derived.Test.YthaahebggboliaaGreatMcb
import Derived.StillTailTactics
-- PenS
namespace Go.Proofs.YthaahebggboliaaGreat
open Go.RowKit
set_option linter.unusedVariables false

theorem Tryz.infoPstQ : (Tryz.prog.info? 55).map (fun i => (i.zero, i.size, i.bytes)) = some (some (.agg #[.int .i64 0, .int .i64 0, .int .i64 0]), 3, 24) := by kernel_rfl
theorem wp_appendQ {ops : Array Oper} {rest : List Oper} {o : Oper} {a : Act} {Q : Exit → Act → World → Prop} (hgd : o.guard = none) (s x : Operand)
    (ho : o.op = .call { callee := .builtin .append, args := #[s, x], argTypes := #[29, 29] })
    (base : Nat) (v : Value) (ps : List (Int × Int × Int)) (f t n : Int) (w : World) (hs : a.eval s = v) (hown : OwnsT 55 w base v ps) (hx : a.eval x = .slice (some ⟨w.heap.size, 0, none⟩) 1 1)
    (hlen : ps.length + 1 ≤ 100000) (hbase : base ≤ w.heap.size)
    (h : ∀ v' w', OwnsT 55 w' base v' (ps ++ [(f, t, n)]) → Below base w w' → wpList Tryz.prog ops Q rest (a.put o.dst v') w') : wpList Tryz.prog ops Q (o :: rest) a (w.alloc (.cells #[.int .i64 f, .int .i64 t, .int .i64 n] 55)) := by
  obtain ⟨i0, hi, hz0, hz1, hz2⟩ := info_parts Tryz.infoPstQ
  refine wpList_append_lies _ hgd s x 29 ho base 55 i0 (.agg #[.int .i64 0, .int .i64 0, .int .i64 0]) 3 24 Tryz.underlying29 hi hz0 hz1 hz2 rfl (by decide) v _ _ hs (hown.alloc _) ⟨w.heap.size, 0, none⟩ 1 1 [.int .i64 f, .int .i64 t, .int .i64 n] hx rfl (World.news_of_block (heap_alloc_new w _)) ?_ (by decide) ?_ ?_ ?_ (w.heap.size + 1) (by simp) ?_
  · intro u hu
    simp at hu
    rcases hu with rfl | rfl | rfl <;> rfl
  · unfold maxLen; omega
  · omega
  · rw [World.size_alloc]; omega
  · intro g cap w' h1 h2 h3 h4
    refine h _ w' ?_ ?_
    · unfold OwnsT
      rw [List.length_append, flatP_append]
      exact h1
    · exact ((Below.refl base w).alloc hbase _).grown h2 (by rw [World.size_alloc]; omega) hown.ge

/-- the postings of these parties -/
def sumL (f : Nat → Int) : Nat → List (Int × Int × Int)
  | 0 => []
  | k + 1 => if f k = 0 then sumL f k else sumL f k ++ [((k : Int), 0, f k)]
theorem sumL_len (f : Nat → Int) : ∀ k, (sumL f k).length ≤ k := by
  intro k
  induction k with
  | zero => exact Nat.le_refl _
  | succ k ih =>
    unfold sumL; split
    · omega
    · rw [List.length_append, List.length_singleton]; omega
/-- what Sum answers -/
def sumE (ps : List (Int × Int × Int)) : Int := if netE ps = 0 then (if (List.range 31).all (fun u => amtB (standF ps u)) = true then (if sumL (standF ps) 31 = [] then 5 else 0) else 8) else netE ps
def sumD (ps : List (Int × Int × Int)) : List (Int × Int × Int) := if sumE ps = 0 then sumL (standF ps) 31 else []
def SumRes (w : World) (ps : List (Int × Int × Int)) (e : Ending) (w' : World) : Prop := ∃ dv, e = .returned (.tuple #[dv, .int .i64 (sumE ps)]) ∧ OwnsT 55 w' w.heap.size dv (sumD ps) ∧ Kpt w w'
theorem sumRes_nil {w w' : World} {ps : List (Int × Int × Int)} {E : Int} (h : sumE ps = E) (h0 : E ≠ 0) (k : Kpt w w') : SumRes w ps (.returned (.tuple #[.slice none 0 0, .int .i64 E])) w' := by
  refine ⟨_, by rw [h], ?_, k⟩
  unfold sumD; rw [h, if_neg h0]; exact OwnsT.nil _ _ _
theorem sumRes_ok {w w' : World} {ps : List (Int × Int × Int)} {M : Nat} {dv : Value} (h : sumE ps = 0) (ho : OwnsT 55 w' M dv (sumL (standF ps) 31)) (hM : w.heap.size ≤ M) (k : Kpt w w') : SumRes w ps (.returned (.tuple #[dv, .int .i64 0])) w' := by
  refine ⟨_, by rw [h], ?_, k⟩
  unfold sumD; rw [if_pos h]
  refine ⟨ho.1, ?_⟩
  rcases ho.2 with h2 | ⟨g, cap, cur, rfl, hg, r⟩
  · exact .inl h2
  · exact .inr ⟨g, cap, cur, rfl, Nat.le_trans hM hg, r⟩

/-- what Stand answers, whatever it is handed -/
def StandRes (w : World) (ps : List (Int × Int × Int)) (e : Ending) (w' : World) : Prop :=
  Kpt w w' ∧ ((netE ps ≠ 0 ∧ e = .returned (.tuple #[.slice none 0 0, .int .i64 (netE ps)])) ∨
    (netE ps = 0 ∧ (List.range 31).all (fun u => amtB (standF ps u)) = true ∧ ∃ g, w.heap.size ≤ g ∧ e = .returned (.tuple #[.slice (some ⟨g, 0, none⟩) 31 31, .int .i64 0]) ∧ Row w' g ((List.range 31).map (standF ps))) ∨
    (netE ps = 0 ∧ (List.range 31).all (fun u => amtB (standF ps u)) = false ∧ e = .returned (.tuple #[.slice none 0 0, .int .i64 8])))
theorem stand_none (a : Option Addr) (cap : Nat) (w : World) (hr : ReadsP w (.slice a 0 cap) []) : Calls Tryz.prog 152 #[.slice a 0 cap] w fun e w' => ∃ w1, Grew w w1 ∧ AmtsEnd w1 31 (standF []) e w' := by
  have C := Lib.hid (netCheck_any (.slice a 0 cap) [] w hr)
  have e : netE [] = 0 := by decide
  rw [e] at C
  go_enter Tryz.func152, Tryz.ntmps152
  go_wp2_with (go_at_call 172; (with_reducible refine C.out.mono ?_); rintro e w0 ⟨rfl, g0⟩; have G0 := Lib.hid g0; clear g0)
  go_loopw [15] (fun i wr => i = .int .i64 0 ∧ Hid (Blk wr w0.heap.size (sumsC 31 (standF [])) 193) ∧ Hid (Grew w0 wr)) (fun _ _ => 0)
  case atStart => exact ⟨rfl, stand_made w0, (Grew.refl _).alloc _ _⟩
  case round =>
    obtain ⟨rfl, HB, HG⟩ := hrel
    have AM := Lib.hid (amounts_run w0.heap.size 31 31 (standF []) 193 wr (by omega) HB.out)
    have GG := Lib.hid (gtr G0.out HG.out)
    go_wp2_with (go_at_call 117; (with_reducible refine AM.out.mono ?_); rintro e w9 h9; have G9 := Lib.hid h9.1; rcases h9.2 with ⟨ha, g, hg, rfl, hrow⟩ | ⟨ha, rfl⟩ <;> (have H9 := Lib.hid ha; clear ha h9))
    · go_ret2
      exact ⟨wr, GG.out, G9.out, .inl ⟨H9.out, g, hg, rfl, hrow⟩⟩
    · go_ret2
      exact ⟨wr, GG.out, G9.out, .inr ⟨H9.out, rfl⟩⟩
theorem dueE_all : ∀ {l : List (Int × Int × Int)}, dueE l = 0 → ∀ p ∈ l, dueB p = true
  | [], _, p, hp => by cases hp
  | q :: l, h, p, hp => by
    unfold dueE at h
    split at h
    · rename_i hb
      split at h
      · cases h
      · rcases List.mem_cons.1 hp with rfl | hp
        · exact hb
        · exact dueE_all h p hp
    · cases h
theorem stand_any (v : Value) (ps : List (Int × Int × Int)) (w : World) (hr : ReadsP w v ps) : Calls Tryz.prog 152 #[v] w (StandRes w ps) := by
  by_cases hE : netE ps = 0
  · have main : Calls Tryz.prog 152 #[v] w fun e w' => ∃ w1, Grew w w1 ∧ AmtsEnd w1 31 (standF ps) e w' := by
      rcases hr.cell with ⟨rfl, a, cap, rfl⟩ | ⟨_, b, off, cap, rfl, hc⟩
      · exact stand_none a cap w hr
      · have h60 : ps.length ≤ 60 := by
          unfold netE at hE; split at hE
          · cases hE
          · omega
        have hd : dueE ps = 0 := by unfold netE at hE; rwa [if_neg (by omega)] at hE
        exact stand_some b off cap ps w hr hE h60 (dueE_all hd) hc
    refine main.mono ?_
    rintro e w' ⟨w1, g1, g2, h⟩
    refine ⟨(gtr g1 g2).kpt, .inr ?_⟩
    rcases h with ⟨ha, g, hg, rfl, hrow⟩ | ⟨⟨u, hu, ha⟩, rfl⟩
    · exact .inl ⟨hE, List.all_eq_true.2 (fun u hu => ha u (List.mem_range.1 hu)), g, Nat.le_trans g1.below.size hg, rfl, hrow⟩
    · refine .inr ⟨hE, ?_, rfl⟩
      cases hx : (List.range 31).all (fun u => amtB (standF ps u)) with
      | false => rfl
      | true =>
        have := List.all_eq_true.1 hx u (List.mem_range.2 hu)
        rw [ha] at this; cases this
  · refine (stand_bad v ps w hr hE).mono ?_
    rintro e w' ⟨rfl, g⟩
    exact ⟨g.kpt, .inl ⟨hE, rfl⟩⟩

set_option maxHeartbeats 2000000 in
set_option maxRecDepth 100000 in
theorem sum_any (v : Value) (ps : List (Int × Int × Int)) (w : World) (hr : ReadsP w v ps) : Calls Tryz.prog 123 #[v] w (SumRes w ps) := by
  have ST := Lib.hid (stand_any v ps w hr)
  clear hr
  by_cases hE : netE ps = 0
  · cases hA : (List.range 31).all (fun u => amtB (standF ps u)) with
    | true =>
      have ST1 : Hid (Calls Tryz.prog 152 #[v] w fun e w' => Kpt w w' ∧ ∃ g, w.heap.size ≤ g ∧ e = .returned (.tuple #[.slice (some ⟨g, 0, none⟩) 31 31, .int .i64 0]) ∧ Row w' g ((List.range 31).map (standF ps))) := by
        refine ST.out.mono ?_
        rintro e w' ⟨k, h | ⟨_, _, g, hg, rfl, hrow⟩ | h⟩
        · exact absurd hE h.1
        · exact ⟨k, g, hg, rfl, hrow⟩
        · rw [hA] at h; exact absurd h.2.1 (by decide)
      have HS : Hid (sumE ps = if sumL (standF ps) 31 = [] then 5 else 0) := by unfold Hid sumE; rw [if_pos hE, if_pos hA]
      have HAM : Hid (∀ u, u < 31 → amtB (standF ps u) = true) := fun u hu => List.all_eq_true.1 hA u (List.mem_range.2 hu)
      clear ST hA hE
      have HO : Hid (∀ w' M dv, sumE ps = 0 → OwnsT 55 w' M dv (sumL (standF ps) 31) → w.heap.size ≤ M → Kpt w w' → SumRes w ps (.returned (.tuple #[dv, .int .i64 0])) w') := fun w' M dv h1 h2 h3 h4 => sumRes_ok h1 h2 h3 h4
      have HN : Hid (∀ w', sumE ps = 5 → Kpt w w' → SumRes w ps (.returned (.tuple #[.slice none 0 0, .int .i64 5])) w') := fun w' h1 h2 => sumRes_nil h1 (by decide) h2
      generalize standF ps = f at *
      go_enter Tryz.func123, Tryz.ntmps123
      go_wp2_with (go_at_call 152; (with_reducible refine ST1.out.mono ?_); rintro e w1 ⟨k1, g, hg, rfl, hrow⟩; have K1 := Lib.hid k1; have R1 := Lib.hid hrow; clear k1 hrow)
      go_loopw [6, 19] (fun dv i wr => ∃ k : Nat, k ≤ 31 ∧ i = .int .i64 k ∧ Hid (OwnsT 55 wr w1.heap.size dv (sumL f k)) ∧ Hid (Kpt w1 wr)) (fun _ i _ => 31 - (intOf i).toNat)
      case atStart => exact ⟨0, Nat.zero_le _, rfl, OwnsT.nil _ _ _, Kpt.refl _⟩
      case round =>
        obtain ⟨k, hk, rfl, HOW, HK⟩ := hrel
        by_cases hlt : k < 31
        · have c0 : wr.cell? ⟨g, k, none⟩ = some (.int .i64 (f k)) := by
            have h := (R1.out.below HK.out R1.out.lt).cell (j := k) (by simpa using hlt)
            rw [List.getD_eq_getElem?_getD] at h
            simpa [hlt] using h
          have ham := amt_t (HAM.out k hlt)
          have hst : sumL f (k + 1) = if f k = 0 then sumL f k else sumL f k ++ [((k : Int), 0, f k)] := rfl
          have hll := sumL_len f k
          generalize f k = z at c0 ham hst
          have k31 : (k : Int) < 31 := by omega
          by_cases hz : z = 0
          · rw [if_pos hz] at hst
            have HST := Lib.hid hst
            have q : (z != 0) = false := by simpa using hz
            clear hst
            go_wp2
            go_roundw
            case rel => exact ⟨k + 1, by omega, by go_num, by unfold Hid; rw [HST.out]; exact HOW.out, HK.out⟩
            case measure => simp [intOf]; omega
          · rw [if_neg hz] at hst
            have HST := Lib.hid hst
            have q : (z != 0) = true := by simpa using hz
            have e1000 : (sumL f k).length + 1 ≤ 100000 := by omega
            clear hst
            go_wp2_with (first | (refine wp_appendQ rfl (.tmp 26) (.tmp 30) rfl w1.heap.size _ (sumL f k) _ _ _ _ rfl HOW.out rfl e1000 HK.out.size ?_; intro dv2 w5 o5 b5; have O5 := Lib.hid o5; have K5 : Hid (Kpt w1 w5) := Below.trans HK.out b5; clear o5 b5))
            go_roundw
            case rel => exact ⟨k + 1, by omega, by go_num, by unfold Hid; rw [HST.out]; exact O5.out, K5.out⟩
            case measure => simp [intOf]; omega
        · obtain rfl : k = 31 := by omega
          have KK := Lib.hid (ktr K1.out HK.out)
          obtain ⟨a9, n9, c9, rfl, HNL⟩ := HOW.out.formN
          by_cases hz : sumL f 31 = []
          · have HS5 : Hid (sumE ps = 5) := by unfold Hid; rw [HS.out, if_pos hz]
            obtain rfl : n9 = 0 := by rw [HNL.out, hz]; rfl
            clear hz
            go_wp2
            go_ret2
            exact HN.out _ HS5.out KK.out
          · have HS0 : Hid (sumE ps = 0) := by unfold Hid; rw [HS.out, if_neg hz]
            have hn0 : n9 ≠ 0 := by rw [HNL.out]; exact fun e => hz (List.eq_nil_of_length_eq_zero e)
            have q : ((n9 : Int) == 0) = false := by simpa using hn0
            clear hz hn0
            go_wp2
            go_ret2
            exact HO.out _ _ _ HS0.out HOW.out K1.out.size KK.out
    | false =>
      have ST1 : Hid (Calls Tryz.prog 152 #[v] w fun e w' => Kpt w w' ∧ e = .returned (.tuple #[.slice none 0 0, .int .i64 8])) := by
        refine ST.out.mono ?_
        rintro e w' ⟨k, h | ⟨_, h, _⟩ | h⟩
        · exact absurd hE h.1
        · rw [hA] at h; exact absurd h (by decide)
        · exact ⟨k, h.2.2⟩
      have HS : Hid (sumE ps = 8) := by unfold Hid sumE; rw [if_pos hE, if_neg (by rw [hA]; decide)]
      clear ST hA hE
      go_enter Tryz.func123, Tryz.ntmps123
      go_wp2_with (go_at_call 152; (with_reducible refine ST1.out.mono ?_); rintro e w1 ⟨k1, rfl⟩; have K1 := Lib.hid k1; clear k1)
      go_ret2
      exact sumRes_nil HS.out (by decide) K1.out
  · have ST1 : Hid (Calls Tryz.prog 152 #[v] w fun e w' => Kpt w w' ∧ e = .returned (.tuple #[.slice none 0 0, .int .i64 (netE ps)])) := by
      refine ST.out.mono ?_
      rintro e w' ⟨k, h | h | h⟩
      · exact ⟨k, h.2⟩
      · exact absurd h.1 hE
      · exact absurd h.1 hE
    have HS : Hid (sumE ps = netE ps) := by unfold Hid sumE; rw [if_neg hE]
    clear ST
    have q : (netE ps != 0) = true := by simpa using hE
    generalize netE ps = E at *
    go_enter Tryz.func123, Tryz.ntmps123
    go_wp2_with (go_at_call 152; (with_reducible refine ST1.out.mono ?_); rintro e w1 ⟨k1, rfl⟩; have K1 := Lib.hid k1; clear k1)
    go_ret2
    exact sumRes_nil HS.out hE K1.out

end Go.Proofs.YthaahebggboliaaGreat

-- PenN
namespace Go.Proofs.YthaahebggboliaaGreat
open Go.RowKit
set_option linter.unusedVariables false

theorem orE_mk {a b : Int} (h : a = 0) (g : b = 0) : orE a b = 0 := by rw [orE_r h, g]
theorem day_sub {W : Int} {hs : List Int} {ts fs gs : List (List Int)} {ps : List Int} {q : Int} (h : dayE W hs ts fs ps q = 0) (s : gs.Sublist fs) (g : pdE W hs ts q gs = 0) : dayE W hs ts gs ps q = 0 := by
  obtain ⟨h1, h2⟩ := orE_0 h
  obtain ⟨h3, h4⟩ := orE_0 h1
  obtain ⟨h5, h6⟩ := orE_0 h4
  obtain ⟨h7, h8⟩ := orE_0 h6
  exact orE_mk (orE_mk h3 (orE_mk h5 (orE_mk (checks_sub s h7) h8))) g
theorem day_parts {W : Int} {hs : List Int} {ts fs : List (List Int)} {ps : List Int} {q : Int} (h : dayE W hs ts fs ps q = 0) (k : Nat) :
    dayE W hs ts (fs.take k) ps q = 0 ∧ dayE W hs ts (fs.drop k) ps q = 0 ∧ dayD W hs ts fs ps q = dayD W hs ts (fs.take k) ps q ++ dayD W hs ts (fs.drop k) ps q := by
  have hp := (orE_0 h).2
  rw [← List.take_append_drop k fs, pdE_app] at hp
  obtain ⟨p1, p2⟩ := orE_0 hp
  have a := day_sub h (List.take_sublist k fs) p1
  have b := day_sub h (List.drop_sublist k fs) p2
  refine ⟨a, b, ?_⟩
  unfold dayD
  rw [if_pos h, if_pos a, if_pos b, ← dueL_app, List.take_append_drop]
theorem dayD_len {W : Int} {hs : List Int} {ts fs : List (List Int)} {ps : List Int} {q : Int} (h : dayE W hs ts fs ps q = 0) : (dayD W hs ts fs ps q).length ≤ fs.length ∧ fs.length ≤ 60 := by
  refine ⟨?_, (checksE_0 (orE_0 (orE_0 (orE_0 (orE_0 h).1).2).2).1).1⟩
  unfold dayD; rw [if_pos h]; exact dueL_len fs
theorem csL_amt {W : Int} {hs tl l : List Int} {p q : Int} (h : failEL l = 0) (hp : prcB p = true) : csL W hs tl l p q ≤ 118059162071741130 := by
  unfold csL
  split
  · decide
  · unfold dlyQ
    split
    · next hb =>
      obtain ⟨b1, b2, b3⟩ := dly_t hb
      exact (dly_bd b1 b2 b3).2
    · decide
theorem dueL_inp {W : Int} {hs : List Int} {ts : List (List Int)} {ps : List Int} {q : Int} (hp : ps.length = 20 ∧ ∀ p ∈ ps, prcB p = true) : ∀ (fs : List (List Int)), (∀ l ∈ fs, failEL l = 0) → InP (dueL W hs ts ps q fs)
  | [], _ => fun p hp => absurd hp (by simp [dueL])
  | l :: fs, h => by
    have ih := dueL_inp (W := W) (hs := hs) (ts := ts) (q := q) hp fs (fun m hm => h m (by simp [hm]))
    rw [dueL]
    split
    · next h0 =>
      intro p hp'
      rcases List.mem_cons.1 hp' with rfl | hp'
      · have hl := h l (by simp)
        have hl2 := hl
        unfold failEL at hl2
        have b := fail_bd hl2
        have hpr : prcB (prOf ps l) = true := by
          unfold prOf
          have : (l.getD 4 0 - 1).toNat < ps.length := by rw [hp.1]; omega
          rw [List.getD_eq_getElem?_getD, List.getElem?_eq_getElem this]
          exact hp.2 _ (List.getElem_mem this)
        have c := csL_amt (W := W) (hs := hs) (tl := tlOf ts l) (q := q) hl hpr
        simp only
        omega
      · exact ih p hp'
    · exact ih
theorem dayD_inp {W : Int} {hs : List Int} {ts fs : List (List Int)} {ps : List Int} {q : Int} : InP (dayD W hs ts fs ps q) := by
  unfold dayD
  by_cases h : dayE W hs ts fs ps q = 0
  · rw [if_pos h]
    obtain ⟨h1, h2⟩ := orE_0 h
    have h7 := orE_0 (orE_0 (orE_0 h1).2).2
    exact dueL_inp (prsE_0 (orE_0 h7.2).1) fs (checksE_0 h7.1).2
  · rw [if_neg h]; intro p hp; cases hp

end Go.Proofs.YthaahebggboliaaGreat

-- CycD
namespace Go.Proofs.YthaahebggboliaaGreat
open Go.RowKit Go.Sort Go.Lib
set_option linter.unusedVariables false

theorem sumL_pt (f : Nat → Int) : ∀ k, k ≤ 31 → (∀ j, j < k → amtB (f j) = true) → ∀ p ∈ sumL f k, ptB p = true
  | 0, _, _ => by simp [sumL]
  | k + 1, hk, hf => by
    have ih := sumL_pt f k (by omega) fun j hj => hf j (by omega)
    have ha := amt_t (hf k (by omega))
    unfold sumL
    split
    · exact ih
    · next h0 =>
      intro p hp
      rcases List.mem_append.1 hp with h | h
      · exact ih p h
      · rw [List.mem_singleton] at h
        subst h
        exact pt_mk ⟨by show (0 : Int) ≤ (k : Int); omega, by show (k : Int) ≤ 100; omega, Int.le_refl 0, by show (0 : Int) ≤ 20; decide, h0, ha.1, ha.2⟩
theorem sumD_pt (ds : List (Int × Int × Int)) : ∀ p ∈ sumD ds, ptB p = true := by
  unfold sumD
  split
  · next h =>
    unfold sumE at h
    split at h
    · split at h
      · next ha =>
        exact sumL_pt _ 31 (Nat.le_refl _) fun j hj => List.all_eq_true.1 ha j (List.mem_range.2 hj)
      · cases h
    · next h' => exact absurd h h'
  · simp
theorem sumD_len (ds : List (Int × Int × Int)) : (sumD ds).length ≤ 31 := by
  unfold sumD
  split
  · exact sumL_len _ _
  · simp
theorem mrg_pt {b l : List (Int × Int × Int)} (h : pstE b l = 0) : ∀ p ∈ pstR b l, ptB p = true := by
  obtain ⟨h1, h2, h3, h4, h5⟩ := pst_0 h
  rw [h5]
  exact strict_pt (mrg_book h3).strict
theorem cpoB_pt {b l : List (Int × Int × Int)} (hb : ∀ p ∈ b, ptB p = true) : ∀ p ∈ cpoB b l, ptB p = true := by
  unfold cpoB
  split
  · exact hb
  · split
    · next h => exact mrg_pt h
    · exact hb
theorem cpost_any (base g n cap : Nat) (T : Int) (fv bv pv : Value) (a : Option Addr) (fs : List (List Int)) (b p l : List (Int × Int × Int)) (w : World) (hC : ClerkIs w base g T fv bv pv fs b p) (hbp : ∀ x ∈ b, ptB x = true) (hl : ReadsP w (.slice a n cap) l) (hp : p.length + l.length ≤ 100000) :
    Calls Tryz.prog 109 #[.pointer (some ⟨g, 0, none⟩), .slice a n cap] w fun e w' => e = .returned (.int .i64 (cpoE b l)) ∧ (cpoE b l = 0 → ∃ bv' pv', ClerkIs w' base g T fv bv' pv' fs (cpoB b l) (p ++ cpoP b l)) ∧ Below base w w' ∧ KpX w w' := by
  have hbase : base ≤ w.heap.size := Nat.le_of_lt (Nat.lt_of_le_of_lt hC.ge hC.blk.lt)
  have hb : ReadsP w bv b := OwnsP.reads hC.ob (inP_of hbp)
  have hn : l.length = n := hl.slice
  by_cases h0 : l = []
  · subst h0
    obtain rfl : n = 0 := hn.symm
    refine (cpost_none g a cap w).mono ?_
    rintro e w' ⟨rfl, rfl⟩
    have e0 : cpoE b [] = 0 := rfl
    rw [e0]
    refine ⟨rfl, fun _ => ⟨bv, pv, ?_⟩, Below.refl _ _, KpX.refl _⟩
    have e1 : cpoB b [] = b := rfl
    have e2 : cpoP b [] = [] := rfl
    rw [e1, e2, List.append_nil]
    exact hC
  · have hpos : 0 < n := by
      rcases Nat.eq_zero_or_pos n with h | h
      · exact absurd (List.eq_nil_of_length_eq_zero (hn.trans h)) h0
      · exact h
    have e0 : cpoE b l = pstE b l := if_neg h0
    rw [e0]
    by_cases hE : pstE b l = 0
    · refine (cpost_ok base g n cap T fv bv pv a fs b p l w hC hb hl hpos hp hE).mono ?_
      rintro e w' ⟨bv', pv', rfl, hc, hk, hx⟩
      rw [hE]
      refine ⟨rfl, fun _ => ⟨bv', pv', ?_⟩, hk, hx⟩
      have e1 : cpoB b l = pstR b l := by unfold cpoB; rw [if_neg h0, if_pos hE]
      have e2 : cpoP b l = l := by unfold cpoP; rw [if_neg h0, if_pos hE]
      rw [e1, e2]
      exact hc
    · refine (cpost_bad g n cap 0 T fv bv pv a b l w hC.blk hb hl hpos hE).mono ?_
      rintro e w' ⟨rfl, hk⟩
      exact ⟨rfl, fun h => absurd h hE, hk.mono hbase, hk.x⟩

theorem ClerkIs.kpt {w w' : World} {base g : Nat} {T : Int} {fv bv pv : Value} {fs : List (List Int)} {b p : List (Int × Int × Int)} (h : ClerkIs w base g T fv bv pv fs b p) (k : Kpt w w') : ClerkIs w' base g T fv bv pv fs b p :=
  ⟨h.ge, h.blk.kpt k, row_kpt h.of k, row_kpt h.ob k, row_kpt h.op k, h.ap⟩
/-- the error of the penalties of a day, the book behind them, and what is posted -/
def pnE (W : Int) (hs : List Int) (ts : List (List Int)) (fs : List (List Int)) (ps : List Int) (T : Int) (b : List (Int × Int × Int)) : Int :=
  if dayE W hs ts fs ps T = 0 then (if sumE (dayD W hs ts fs ps T) = 5 then 0 else if sumE (dayD W hs ts fs ps T) = 0 then cpoE b (sumD (dayD W hs ts fs ps T)) else sumE (dayD W hs ts fs ps T)) else dayE W hs ts fs ps T
def pnL (W : Int) (hs : List Int) (ts : List (List Int)) (fs : List (List Int)) (ps : List Int) (T : Int) : List (Int × Int × Int) := if sumE (dayD W hs ts fs ps T) = 0 then sumD (dayD W hs ts fs ps T) else []
def PnRes (w : World) (base g : Nat) (E T : Int) (fv : Value) (fs : List (List Int)) (b p : List (Int × Int × Int)) (e : Ending) (w' : World) : Prop :=
  e = .returned (.int .i64 E) ∧ (E = 0 → ∃ bv' pv', ClerkIs w' base g T fv bv' pv' fs b p) ∧ Below base w w' ∧ KpX w w'

theorem pnRes_0 {w w' : World} {base g : Nat} {T : Int} {fv bv pv : Value} {fs : List (List Int)} {b p : List (Int × Int × Int)} (hC : ClerkIs w base g T fv bv pv fs b p) (hb : base ≤ w.heap.size) (k : Kpt w w') : PnRes w base g 0 T fv fs (cpoB b []) (p ++ cpoP b []) (.returned (.int .i64 0)) w' := by
  refine ⟨rfl, fun _ => ⟨bv, pv, ?_⟩, k.mono hb, k.x⟩
  have e1 : cpoB b [] = b := rfl
  have e2 : cpoP b [] = [] := rfl
  rw [e1, e2, List.append_nil]
  exact hC.kpt k
theorem pnRes_E {w w' : World} {base g : Nat} {E T : Int} {fv : Value} {fs : List (List Int)} {b p : List (Int × Int × Int)} (hE : E ≠ 0) (hb : base ≤ w.heap.size) (k : Kpt w w') : PnRes w base g E T fv fs b p (.returned (.int .i64 E)) w' :=
  ⟨rfl, fun h => absurd h hE, k.mono hb, k.x⟩
set_option maxRecDepth 100000 in
set_option maxHeartbeats 4000000 in
theorem penalize_run (base g : Nat) (W X T : Int) (hv tv pcv fv bv pv : Value) (hs ps : List Int) (ts fs : List (List Int)) (b p : List (Int × Int × Int)) (w : World) (hC : ClerkIs w base g T fv bv pv fs b p) (hbp : ∀ x ∈ b, ptB x = true) (hp : p.length ≤ 99000) (hfl : ∀ l ∈ fs, FlB l)
    (hr : Reads w hv hs) (hf : Fits hs) (ht : ReadsT w tv ts) (hpr : Reads w pcv ps) :
    Calls Tryz.prog 87 #[.pointer (some ⟨g, 0, none⟩), .agg #[.int .i64 W, hv, tv, .int .i64 X], pcv] w (PnRes w base g (pnE W hs ts fs ps T b) T fv fs (cpoB b (pnL W hs ts fs ps T)) (p ++ cpoP b (pnL W hs ts fs ps T))) := by
  have hbase : base ≤ w.heap.size := Nat.le_of_lt (Nat.lt_of_le_of_lt hC.ge hC.blk.lt)
  have HF : ReadsF w fv fs := hC.of.readsF hfl
  have DY := Lib.hid (fun w' (k : Kpt w w') => day_any W T hv tv fv pcv hs ts fs ps w' (hr.kpt k) hf (ht.kpt k) (HF.kpt k) (hpr.kpt k))
  have SM := Lib.hid (fun v w' (h : ReadsP w' v (dayD W hs ts fs ps T)) => sum_any v _ w' h)
  have IN : Hid (InP (dayD W hs ts fs ps T)) := dayD_inp
  have CPO := Lib.hid (fun n cap a w' (k : Kpt w w') (h : ReadsP w' (.slice a n cap) (sumD (dayD W hs ts fs ps T))) => cpost_any base g n cap T fv bv pv a fs b p _ w' (hC.kpt k) hbp h (by have := sumD_len (dayD W hs ts fs ps T); omega))
  have K0 : Hid (Kpt w (w.alloc (.cells #[.int .i64 W, hv, tv, .int .i64 X] 27))) := (Kpt.refl w).alloc _
  have BR : Hid (Blk (w.alloc (.cells #[.int .i64 W, hv, tv, .int .i64 X] 27)) w.heap.size #[.int .i64 W, hv, tv, .int .i64 X] 27) := Blk.made w _ _
  have BC : Hid (Blk (w.alloc (.cells #[.int .i64 W, hv, tv, .int .i64 X] 27)) g #[.int .i64 T, fv, bv, pv] 75) := hC.blk.kpt K0.out
  have r0 : World.cell? (w.alloc (.cells #[.int .i64 W, hv, tv, .int .i64 X] 27)) ⟨w.heap.size, 0, none⟩ = some (.int .i64 W) := BR.out.cell 0
  have r1 : World.cell? (w.alloc (.cells #[.int .i64 W, hv, tv, .int .i64 X] 27)) ⟨w.heap.size, 1, none⟩ = some hv := BR.out.cell 1
  have r2 : World.cell? (w.alloc (.cells #[.int .i64 W, hv, tv, .int .i64 X] 27)) ⟨w.heap.size, 2, none⟩ = some tv := BR.out.cell 2
  have s0 : World.cell? (w.alloc (.cells #[.int .i64 W, hv, tv, .int .i64 X] 27)) ⟨g, 0, none⟩ = some (.int .i64 T) := BC.out.cell 0
  have s1 : World.cell? (w.alloc (.cells #[.int .i64 W, hv, tv, .int .i64 X] 27)) ⟨g, 1, none⟩ = some fv := BC.out.cell 1
  have HB := Lib.hid hbase
  have HC := Lib.hid hC
  have PE : Hid (pnE W hs ts fs ps T b = if dayE W hs ts fs ps T = 0 then (if sumE (dayD W hs ts fs ps T) = 5 then 0 else if sumE (dayD W hs ts fs ps T) = 0 then cpoE b (sumD (dayD W hs ts fs ps T)) else sumE (dayD W hs ts fs ps T)) else dayE W hs ts fs ps T) := rfl
  have PL : Hid (pnL W hs ts fs ps T = if sumE (dayD W hs ts fs ps T) = 0 then sumD (dayD W hs ts fs ps T) else []) := rfl
  obtain ⟨ah, caph, rfl, -⟩ := id hr
  obtain ⟨at', capt, rfl, -⟩ := id ht
  obtain ⟨af, capf, rfl, -⟩ := id HF
  obtain ⟨ap, capp, rfl, -⟩ := id hpr
  unfold calV at DY
  clear hC hbp hp hfl hr hf ht hpr HF hbase
  by_cases h1 : dayE W hs ts fs ps T = 0
  · have pe := PE.out
    rw [if_pos h1] at pe
    rw [h1] at DY
    by_cases h2 : sumE (dayD W hs ts fs ps T) = 5
    · rw [if_pos h2] at pe
      have pl := PL.out
      rw [if_neg (by rw [h2]; decide)] at pl
      rw [pe, pl]
      unfold SumRes at SM
      rw [h2] at SM
      clear pe pl PE PL h1 h2
      generalize dayD W hs ts fs ps T = ds at *
      go_enter Tryz.func87, Tryz.ntmps87
      go_wp2
      generalize (w.alloc (.cells #[.int .i64 W, .slice ah hs.length caph, .slice at' ts.length capt, .int .i64 X] 27)) = w0 at *
      go_region_held3 (fun w' => w'.cell? ⟨w.heap.size, 0, none⟩ = some (.int .i64 W) ∧ w'.cell? ⟨w.heap.size, 1, none⟩ = some (.slice ah hs.length caph) ∧ w'.cell? ⟨w.heap.size, 2, none⟩ = some (.slice at' ts.length capt) ∧ w'.cell? ⟨g, 0, none⟩ = some (.int .i64 T) ∧ w'.cell? ⟨g, 1, none⟩ = some (.slice af fs.length capf) ∧ Hid (Kpt w w'))
        ((refine ⟨?_, ?_, ?_, ?_, ?_, ?_⟩ <;> (first | go_keep | assumption | exact Below.drew K0.out)))
        (first
          | (go_at_call 122; refine (DY.out _ (Below.drew K0.out)).mono ?_; rintro x w1 ⟨dv, rfl, od, kk⟩; have RD := Lib.hid (OwnsT.reads od IN.out); obtain ⟨a3, cap3, rfl⟩ := OwnsT.form od; have K1 : Hid (Kpt w w1) := ktr (Below.drew K0.out) kk; have K9 : Kpt w0 w1 := ktr (Below.drew (Kpt.refl w0)) kk; have q0 := K9.cell r0; have q1 := K9.cell r1; have q2 := K9.cell r2; have t0 := K9.cell s0; have t1 := K9.cell s1; clear od))
      clear q0 q1 q2 t0 t1 K9 kk r0 r1 r2 s0 s1
      go_wp2_with (go_at_call 123; (with_reducible refine (SM.out _ _ RD.out).mono ?_); rintro x w2 ⟨dv2, rfl, od2, kk⟩; have RP := Lib.hid (OwnsP.reads od2 (inP_of (sumD_pt _))); obtain ⟨a4, cap4, rfl⟩ := OwnsP.form od2; have K2 := Lib.hid (ktr K1.out kk); clear od2 kk)
      go_ret
      exact pnRes_0 HC.out HB.out K2.out
    · rw [if_neg h2] at pe
      have y5 : (sumE (dayD W hs ts fs ps T) == 5) = false := beq_eq_false_iff_ne.2 h2
      by_cases h3 : sumE (dayD W hs ts fs ps T) = 0
      · rw [if_pos h3] at pe
        have pl := PL.out
        rw [if_pos h3] at pl
        rw [pe, pl]
        unfold SumRes at SM
        rw [h3] at SM
        clear pe pl PE PL h1 h2 h3 y5
        generalize dayD W hs ts fs ps T = ds at *
        go_enter Tryz.func87, Tryz.ntmps87
        go_wp2
        generalize (w.alloc (.cells #[.int .i64 W, .slice ah hs.length caph, .slice at' ts.length capt, .int .i64 X] 27)) = w0 at *
        go_region_held3 (fun w' => w'.cell? ⟨w.heap.size, 0, none⟩ = some (.int .i64 W) ∧ w'.cell? ⟨w.heap.size, 1, none⟩ = some (.slice ah hs.length caph) ∧ w'.cell? ⟨w.heap.size, 2, none⟩ = some (.slice at' ts.length capt) ∧ w'.cell? ⟨g, 0, none⟩ = some (.int .i64 T) ∧ w'.cell? ⟨g, 1, none⟩ = some (.slice af fs.length capf) ∧ Hid (Kpt w w'))
          ((refine ⟨?_, ?_, ?_, ?_, ?_, ?_⟩ <;> (first | go_keep | assumption | exact Below.drew K0.out)))
          (first
            | (go_at_call 122; refine (DY.out _ (Below.drew K0.out)).mono ?_; rintro x w1 ⟨dv, rfl, od, kk⟩; have RD := Lib.hid (OwnsT.reads od IN.out); obtain ⟨a3, cap3, rfl⟩ := OwnsT.form od; have K1 : Hid (Kpt w w1) := ktr (Below.drew K0.out) kk; have K9 : Kpt w0 w1 := ktr (Below.drew (Kpt.refl w0)) kk; have q0 := K9.cell r0; have q1 := K9.cell r1; have q2 := K9.cell r2; have t0 := K9.cell s0; have t1 := K9.cell s1; clear od))
        clear q0 q1 q2 t0 t1 K9 kk r0 r1 r2 s0 s1
        go_wp2_with (first
          | (go_at_call 123; (with_reducible refine (SM.out _ _ RD.out).mono ?_); rintro x w2 ⟨dv2, rfl, od2, kk⟩; have RP := Lib.hid (OwnsP.reads od2 (inP_of (sumD_pt _))); obtain ⟨a4, cap4, rfl⟩ := OwnsP.form od2; have K2 := Lib.hid (ktr K1.out kk); clear od2 kk)
          | (go_at_call 109; (with_reducible refine (CPO.out _ _ _ _ K2.out RP.out).mono ?_); rintro x w3 ⟨rfl, hc3, kb3, kx3⟩; have C3 := Lib.hid hc3; have KB3 := Lib.hid kb3; have KX3 := Lib.hid kx3; clear hc3 kb3 kx3))
        go_ret
        exact ⟨rfl, C3.out, (K2.out.mono HB.out).trans KB3.out, (Kpt.x K2.out).trans KX3.out⟩
      · rw [if_neg h3] at pe
        rw [pe]
        have y0 : (sumE (dayD W hs ts fs ps T) != 0) = true := bne_iff_ne.2 h3
        have HX := Lib.hid h3
        unfold SumRes at SM
        clear pe PE PL h1 h2 h3
        generalize pnL W hs ts fs ps T = pl at *
        generalize dayD W hs ts fs ps T = ds at *
        go_enter Tryz.func87, Tryz.ntmps87
        go_wp2
        generalize (w.alloc (.cells #[.int .i64 W, .slice ah hs.length caph, .slice at' ts.length capt, .int .i64 X] 27)) = w0 at *
        go_region_held3 (fun w' => w'.cell? ⟨w.heap.size, 0, none⟩ = some (.int .i64 W) ∧ w'.cell? ⟨w.heap.size, 1, none⟩ = some (.slice ah hs.length caph) ∧ w'.cell? ⟨w.heap.size, 2, none⟩ = some (.slice at' ts.length capt) ∧ w'.cell? ⟨g, 0, none⟩ = some (.int .i64 T) ∧ w'.cell? ⟨g, 1, none⟩ = some (.slice af fs.length capf) ∧ Hid (Kpt w w'))
          ((refine ⟨?_, ?_, ?_, ?_, ?_, ?_⟩ <;> (first | go_keep | assumption | exact Below.drew K0.out)))
          (first
            | (go_at_call 122; refine (DY.out _ (Below.drew K0.out)).mono ?_; rintro x w1 ⟨dv, rfl, od, kk⟩; have RD := Lib.hid (OwnsT.reads od IN.out); obtain ⟨a3, cap3, rfl⟩ := OwnsT.form od; have K1 : Hid (Kpt w w1) := ktr (Below.drew K0.out) kk; have K9 : Kpt w0 w1 := ktr (Below.drew (Kpt.refl w0)) kk; have q0 := K9.cell r0; have q1 := K9.cell r1; have q2 := K9.cell r2; have t0 := K9.cell s0; have t1 := K9.cell s1; clear od))
        clear q0 q1 q2 t0 t1 K9 kk r0 r1 r2 s0 s1
        go_wp2_with (go_at_call 123; (with_reducible refine (SM.out _ _ RD.out).mono ?_); rintro x w2 ⟨dv2, rfl, od2, kk⟩; have RP := Lib.hid (OwnsP.reads od2 (inP_of (sumD_pt _))); obtain ⟨a4, cap4, rfl⟩ := OwnsP.form od2; have K2 := Lib.hid (ktr K1.out kk); clear od2 kk)
        go_ret
        exact pnRes_E HX.out HB.out K2.out
  · have pe := PE.out
    rw [if_neg h1] at pe
    rw [pe]
    have y0 : (dayE W hs ts fs ps T != 0) = true := bne_iff_ne.2 h1
    have HX := Lib.hid h1
    clear pe PE PL h1
    generalize pnL W hs ts fs ps T = pl at *
    generalize dayD W hs ts fs ps T = ds at *
    generalize dayE W hs ts fs ps T = E at *
    go_enter Tryz.func87, Tryz.ntmps87
    go_wp2
    generalize (w.alloc (.cells #[.int .i64 W, .slice ah hs.length caph, .slice at' ts.length capt, .int .i64 X] 27)) = w0 at *
    go_region_held3 (fun w' => w'.cell? ⟨w.heap.size, 0, none⟩ = some (.int .i64 W) ∧ w'.cell? ⟨w.heap.size, 1, none⟩ = some (.slice ah hs.length caph) ∧ w'.cell? ⟨w.heap.size, 2, none⟩ = some (.slice at' ts.length capt) ∧ w'.cell? ⟨g, 0, none⟩ = some (.int .i64 T) ∧ w'.cell? ⟨g, 1, none⟩ = some (.slice af fs.length capf) ∧ Hid (Kpt w w'))
      ((refine ⟨?_, ?_, ?_, ?_, ?_, ?_⟩ <;> (first | go_keep | assumption | exact Below.drew K0.out)))
      (first
        | (go_at_call 122; refine (DY.out _ (Below.drew K0.out)).mono ?_; rintro x w1 ⟨dv, rfl, od, kk⟩; have RD := Lib.hid (OwnsT.reads od IN.out); obtain ⟨a3, cap3, rfl⟩ := OwnsT.form od; have K1 : Hid (Kpt w w1) := ktr (Below.drew K0.out) kk; have K9 : Kpt w0 w1 := ktr (Below.drew (Kpt.refl w0)) kk; have q0 := K9.cell r0; have q1 := K9.cell r1; have q2 := K9.cell r2; have t0 := K9.cell s0; have t1 := K9.cell s1; clear od))
    clear q0 q1 q2 t0 t1 K9 kk r0 r1 r2 s0 s1
    go_wp2
    go_ret
    exact pnRes_E HX.out HB.out K1.out

end Go.Proofs.YthaahebggboliaaGreat
