/-
  Merged: PenS, SameD, SameP, PenB, PenE, PenW, LawPR.
-/
import Derived.Test.YtbidafbllnhmnaaMga
import Derived.Test.YtbidafbllnhmnaaMgb
import Derived.Test.YtbidafbllnhmnaaTrip
import Derived.Test.YtbidafbllnhmnaaKept
import Derived.Deep.QuietTactic
import Derived.BigQuiet
import Derived.Test.YtbidafbllnhmnaaAgeF
import Derived.Deep.MidRow
import Derived.Deep.Cut
import Derived.Deep.CutRange
import Derived.Deep.RegionWith
import Derived.Deep.RegionHeld3
import Derived.Deep.RegionLaw
-- PenS
namespace Go.Proofs.Ytbidafbllnhmnaa
open Go.RowKit
set_option linter.unusedVariables false

theorem Try.infoPstQ : (Try.prog.info? 97).map (fun i => (i.zero, i.size, i.bytes)) = some (some (.agg #[.int .i64 0, .int .i64 0, .int .i64 0]), 3, 24) := by kernel_rfl
theorem wp_appendQ {ops : Array Oper} {rest : List Oper} {o : Oper} {a : Act} {Q : Exit → Act → World → Prop} (hgd : o.guard = none) (s x : Operand)
    (ho : o.op = .call { callee := .builtin .append, args := #[s, x], argTypes := #[92, 92] })
    (base : Nat) (v : Value) (ps : List (Int × Int × Int)) (f t n : Int) (w : World) (hs : a.eval s = v) (hown : OwnsT 97 w base v ps) (hx : a.eval x = .slice (some ⟨w.heap.size, 0, none⟩) 1 1)
    (hlen : ps.length + 1 ≤ 100000) (hbase : base ≤ w.heap.size)
    (h : ∀ v' w', OwnsT 97 w' base v' (ps ++ [(f, t, n)]) → Below base w w' → wpList Try.prog ops Q rest (a.put o.dst v') w') : wpList Try.prog ops Q (o :: rest) a (w.alloc (.cells #[.int .i64 f, .int .i64 t, .int .i64 n] 97)) := by
  obtain ⟨i0, hi, hz0, hz1, hz2⟩ := info_parts Try.infoPstQ
  refine wpList_append_lies _ hgd s x 92 ho base 97 i0 (.agg #[.int .i64 0, .int .i64 0, .int .i64 0]) 3 24 Try.underlying92 hi hz0 hz1 hz2 rfl (by decide) v _ _ hs (hown.alloc _) ⟨w.heap.size, 0, none⟩ 1 1 [.int .i64 f, .int .i64 t, .int .i64 n] hx rfl (World.news_of_block (heap_alloc_new w _)) ?_ (by decide) ?_ ?_ ?_ (w.heap.size + 1) (by simp) ?_
  · intro u hu
    simp at hu
    rcases hu with rfl | rfl | rfl <;> rfl
  · unfold maxLen; omega
  · omega
  · rw [World.size_alloc]; omega
  · intro g cap w' h1 h2 h3 h4
    refine h _ w' ?_ ?_
    · unfold OwnsT
      rw [List.length_append, flatP_append]
      exact h1
    · exact ((Below.refl base w).alloc hbase _).grown h2 (by rw [World.size_alloc]; omega) hown.ge

/-- the postings of these parties -/
def sumL (f : Nat → Int) : Nat → List (Int × Int × Int)
  | 0 => []
  | k + 1 => if f k = 0 then sumL f k else sumL f k ++ [((k : Int), 0, f k)]
theorem sumL_len (f : Nat → Int) : ∀ k, (sumL f k).length ≤ k := by
  intro k
  induction k with
  | zero => exact Nat.le_refl _
  | succ k ih =>
    unfold sumL; split
    · omega
    · rw [List.length_append, List.length_singleton]; omega
/-- what Sum answers -/
def sumE (ps : List (Int × Int × Int)) : Int := if netE ps = 0 then (if (List.range 31).all (fun u => amtB (standF ps u)) = true then (if sumL (standF ps) 31 = [] then 5 else 0) else 8) else netE ps
def sumD (ps : List (Int × Int × Int)) : List (Int × Int × Int) := if sumE ps = 0 then sumL (standF ps) 31 else []
def SumRes (w : World) (ps : List (Int × Int × Int)) (e : Ending) (w' : World) : Prop := ∃ dv, e = .returned (.tuple #[dv, .int .i64 (sumE ps)]) ∧ OwnsT 97 w' w.heap.size dv (sumD ps) ∧ Kpt w w'
theorem sumRes_nil {w w' : World} {ps : List (Int × Int × Int)} {E : Int} (h : sumE ps = E) (h0 : E ≠ 0) (k : Kpt w w') : SumRes w ps (.returned (.tuple #[.slice none 0 0, .int .i64 E])) w' := by
  refine ⟨_, by rw [h], ?_, k⟩
  unfold sumD; rw [h, if_neg h0]; exact OwnsT.nil _ _ _
theorem sumRes_ok {w w' : World} {ps : List (Int × Int × Int)} {M : Nat} {dv : Value} (h : sumE ps = 0) (ho : OwnsT 97 w' M dv (sumL (standF ps) 31)) (hM : w.heap.size ≤ M) (k : Kpt w w') : SumRes w ps (.returned (.tuple #[dv, .int .i64 0])) w' := by
  refine ⟨_, by rw [h], ?_, k⟩
  unfold sumD; rw [if_pos h]
  refine ⟨ho.1, ?_⟩
  rcases ho.2 with h2 | ⟨g, cap, cur, rfl, hg, r⟩
  · exact .inl h2
  · exact .inr ⟨g, cap, cur, rfl, Nat.le_trans hM hg, r⟩

/-- what Stand answers, whatever it is handed -/
def StandRes (w : World) (ps : List (Int × Int × Int)) (e : Ending) (w' : World) : Prop :=
  Kpt w w' ∧ ((netE ps ≠ 0 ∧ e = .returned (.tuple #[.slice none 0 0, .int .i64 (netE ps)])) ∨
    (netE ps = 0 ∧ (List.range 31).all (fun u => amtB (standF ps u)) = true ∧ ∃ g, w.heap.size ≤ g ∧ e = .returned (.tuple #[.slice (some ⟨g, 0, none⟩) 31 31, .int .i64 0]) ∧ Row w' g ((List.range 31).map (standF ps))) ∨
    (netE ps = 0 ∧ (List.range 31).all (fun u => amtB (standF ps u)) = false ∧ e = .returned (.tuple #[.slice none 0 0, .int .i64 8])))
theorem stand_none (a : Option Addr) (cap : Nat) (w : World) (hr : ReadsP w (.slice a 0 cap) []) : Calls Try.prog 105 #[.slice a 0 cap] w fun e w' => ∃ w1, Grew w w1 ∧ AmtsEnd w1 31 (standF []) e w' := by
  have C := Lib.hid (netCheck_any (.slice a 0 cap) [] w hr)
  have e : netE [] = 0 := by decide
  rw [e] at C
  go_enter Try.func105, Try.ntmps105
  go_wp2_with (go_at_call 127; (with_reducible refine C.out.mono ?_); rintro e w0 ⟨rfl, g0⟩; have G0 := Lib.hid g0; clear g0)
  go_loopw [15] (fun i wr => i = .int .i64 0 ∧ Hid (Blk wr w0.heap.size (sumsC 31 (standF [])) 154) ∧ Hid (Grew w0 wr)) (fun _ _ => 0)
  case atStart => exact ⟨rfl, stand_made w0, (Grew.refl _).alloc _ _⟩
  case round =>
    obtain ⟨rfl, HB, HG⟩ := hrel
    have AM := Lib.hid (amounts_run w0.heap.size 31 31 (standF []) 154 wr (by omega) HB.out)
    have GG := Lib.hid (gtr G0.out HG.out)
    go_wp2_with (go_at_call 129; (with_reducible refine AM.out.mono ?_); rintro e w9 h9; have G9 := Lib.hid h9.1; rcases h9.2 with ⟨ha, g, hg, rfl, hrow⟩ | ⟨ha, rfl⟩ <;> (have H9 := Lib.hid ha; clear ha h9))
    · go_ret2
      exact ⟨wr, GG.out, G9.out, .inl ⟨H9.out, g, hg, rfl, hrow⟩⟩
    · go_ret2
      exact ⟨wr, GG.out, G9.out, .inr ⟨H9.out, rfl⟩⟩
theorem dueE_all : ∀ {l : List (Int × Int × Int)}, dueE l = 0 → ∀ p ∈ l, dueB p = true
  | [], _, p, hp => by cases hp
  | q :: l, h, p, hp => by
    unfold dueE at h
    split at h
    · rename_i hb
      split at h
      · cases h
      · rcases List.mem_cons.1 hp with rfl | hp
        · exact hb
        · exact dueE_all h p hp
    · cases h
theorem stand_any (v : Value) (ps : List (Int × Int × Int)) (w : World) (hr : ReadsP w v ps) : Calls Try.prog 105 #[v] w (StandRes w ps) := by
  by_cases hE : netE ps = 0
  · have main : Calls Try.prog 105 #[v] w fun e w' => ∃ w1, Grew w w1 ∧ AmtsEnd w1 31 (standF ps) e w' := by
      rcases hr.cell with ⟨rfl, a, cap, rfl⟩ | ⟨_, b, off, cap, rfl, hc⟩
      · exact stand_none a cap w hr
      · have h60 : ps.length ≤ 60 := by
          unfold netE at hE; split at hE
          · cases hE
          · omega
        have hd : dueE ps = 0 := by unfold netE at hE; rwa [if_neg (by omega)] at hE
        exact stand_some b off cap ps w hr hE h60 (dueE_all hd) hc
    refine main.mono ?_
    rintro e w' ⟨w1, g1, g2, h⟩
    refine ⟨(gtr g1 g2).kpt, .inr ?_⟩
    rcases h with ⟨ha, g, hg, rfl, hrow⟩ | ⟨⟨u, hu, ha⟩, rfl⟩
    · exact .inl ⟨hE, List.all_eq_true.2 (fun u hu => ha u (List.mem_range.1 hu)), g, Nat.le_trans g1.below.size hg, rfl, hrow⟩
    · refine .inr ⟨hE, ?_, rfl⟩
      cases hx : (List.range 31).all (fun u => amtB (standF ps u)) with
      | false => rfl
      | true =>
        have := List.all_eq_true.1 hx u (List.mem_range.2 hu)
        rw [ha] at this; cases this
  · refine (stand_bad v ps w hr hE).mono ?_
    rintro e w' ⟨rfl, g⟩
    exact ⟨g.kpt, .inl ⟨hE, rfl⟩⟩

set_option maxHeartbeats 2000000 in
set_option maxRecDepth 100000 in
theorem sum_any (v : Value) (ps : List (Int × Int × Int)) (w : World) (hr : ReadsP w v ps) : Calls Try.prog 64 #[v] w (SumRes w ps) := by
  have ST := Lib.hid (stand_any v ps w hr)
  clear hr
  by_cases hE : netE ps = 0
  · cases hA : (List.range 31).all (fun u => amtB (standF ps u)) with
    | true =>
      have ST1 : Hid (Calls Try.prog 105 #[v] w fun e w' => Kpt w w' ∧ ∃ g, w.heap.size ≤ g ∧ e = .returned (.tuple #[.slice (some ⟨g, 0, none⟩) 31 31, .int .i64 0]) ∧ Row w' g ((List.range 31).map (standF ps))) := by
        refine ST.out.mono ?_
        rintro e w' ⟨k, h | ⟨_, _, g, hg, rfl, hrow⟩ | h⟩
        · exact absurd hE h.1
        · exact ⟨k, g, hg, rfl, hrow⟩
        · rw [hA] at h; exact absurd h.2.1 (by decide)
      have HS : Hid (sumE ps = if sumL (standF ps) 31 = [] then 5 else 0) := by unfold Hid sumE; rw [if_pos hE, if_pos hA]
      have HAM : Hid (∀ u, u < 31 → amtB (standF ps u) = true) := fun u hu => List.all_eq_true.1 hA u (List.mem_range.2 hu)
      clear ST hA hE
      have HO : Hid (∀ w' M dv, sumE ps = 0 → OwnsT 97 w' M dv (sumL (standF ps) 31) → w.heap.size ≤ M → Kpt w w' → SumRes w ps (.returned (.tuple #[dv, .int .i64 0])) w') := fun w' M dv h1 h2 h3 h4 => sumRes_ok h1 h2 h3 h4
      have HN : Hid (∀ w', sumE ps = 5 → Kpt w w' → SumRes w ps (.returned (.tuple #[.slice none 0 0, .int .i64 5])) w') := fun w' h1 h2 => sumRes_nil h1 (by decide) h2
      generalize standF ps = f at *
      go_enter Try.func64, Try.ntmps64
      go_wp2_with (go_at_call 105; (with_reducible refine ST1.out.mono ?_); rintro e w1 ⟨k1, g, hg, rfl, hrow⟩; have K1 := Lib.hid k1; have R1 := Lib.hid hrow; clear k1 hrow)
      go_loopw [6, 19] (fun dv i wr => ∃ k : Nat, k ≤ 31 ∧ i = .int .i64 k ∧ Hid (OwnsT 97 wr w1.heap.size dv (sumL f k)) ∧ Hid (Kpt w1 wr)) (fun _ i _ => 31 - (intOf i).toNat)
      case atStart => exact ⟨0, Nat.zero_le _, rfl, OwnsT.nil _ _ _, Kpt.refl _⟩
      case round =>
        obtain ⟨k, hk, rfl, HOW, HK⟩ := hrel
        by_cases hlt : k < 31
        · have c0 : wr.cell? ⟨g, k, none⟩ = some (.int .i64 (f k)) := by
            have h := (R1.out.below HK.out R1.out.lt).cell (j := k) (by simpa using hlt)
            rw [List.getD_eq_getElem?_getD] at h
            simpa [hlt] using h
          have ham := amt_t (HAM.out k hlt)
          have hst : sumL f (k + 1) = if f k = 0 then sumL f k else sumL f k ++ [((k : Int), 0, f k)] := rfl
          have hll := sumL_len f k
          generalize f k = z at c0 ham hst
          have k31 : (k : Int) < 31 := by omega
          by_cases hz : z = 0
          · rw [if_pos hz] at hst
            have HST := Lib.hid hst
            have q : (z != 0) = false := by simpa using hz
            clear hst
            go_wp2
            go_roundw
            case rel => exact ⟨k + 1, by omega, by go_num, by unfold Hid; rw [HST.out]; exact HOW.out, HK.out⟩
            case measure => simp [intOf]; omega
          · rw [if_neg hz] at hst
            have HST := Lib.hid hst
            have q : (z != 0) = true := by simpa using hz
            have e1000 : (sumL f k).length + 1 ≤ 100000 := by omega
            clear hst
            go_wp2_with (first | (refine wp_appendQ rfl (.tmp 26) (.tmp 30) rfl w1.heap.size _ (sumL f k) _ _ _ _ rfl HOW.out rfl e1000 HK.out.size ?_; intro dv2 w5 o5 b5; have O5 := Lib.hid o5; have K5 : Hid (Kpt w1 w5) := Below.trans HK.out b5; clear o5 b5))
            go_roundw
            case rel => exact ⟨k + 1, by omega, by go_num, by unfold Hid; rw [HST.out]; exact O5.out, K5.out⟩
            case measure => simp [intOf]; omega
        · obtain rfl : k = 31 := by omega
          have KK := Lib.hid (ktr K1.out HK.out)
          obtain ⟨a9, n9, c9, rfl, HNL⟩ := HOW.out.formN
          by_cases hz : sumL f 31 = []
          · have HS5 : Hid (sumE ps = 5) := by unfold Hid; rw [HS.out, if_pos hz]
            obtain rfl : n9 = 0 := by rw [HNL.out, hz]; rfl
            clear hz
            go_wp2
            go_ret2
            exact HN.out _ HS5.out KK.out
          · have HS0 : Hid (sumE ps = 0) := by unfold Hid; rw [HS.out, if_neg hz]
            have hn0 : n9 ≠ 0 := by rw [HNL.out]; exact fun e => hz (List.eq_nil_of_length_eq_zero e)
            have q : ((n9 : Int) == 0) = false := by simpa using hn0
            clear hz hn0
            go_wp2
            go_ret2
            exact HO.out _ _ _ HS0.out HOW.out K1.out.size KK.out
    | false =>
      have ST1 : Hid (Calls Try.prog 105 #[v] w fun e w' => Kpt w w' ∧ e = .returned (.tuple #[.slice none 0 0, .int .i64 8])) := by
        refine ST.out.mono ?_
        rintro e w' ⟨k, h | ⟨_, h, _⟩ | h⟩
        · exact absurd hE h.1
        · rw [hA] at h; exact absurd h (by decide)
        · exact ⟨k, h.2.2⟩
      have HS : Hid (sumE ps = 8) := by unfold Hid sumE; rw [if_pos hE, if_neg (by rw [hA]; decide)]
      clear ST hA hE
      go_enter Try.func64, Try.ntmps64
      go_wp2_with (go_at_call 105; (with_reducible refine ST1.out.mono ?_); rintro e w1 ⟨k1, rfl⟩; have K1 := Lib.hid k1; clear k1)
      go_ret2
      exact sumRes_nil HS.out (by decide) K1.out
  · have ST1 : Hid (Calls Try.prog 105 #[v] w fun e w' => Kpt w w' ∧ e = .returned (.tuple #[.slice none 0 0, .int .i64 (netE ps)])) := by
      refine ST.out.mono ?_
      rintro e w' ⟨k, h | h | h⟩
      · exact ⟨k, h.2⟩
      · exact absurd h.1 hE
      · exact absurd h.1 hE
    have HS : Hid (sumE ps = netE ps) := by unfold Hid sumE; rw [if_neg hE]
    clear ST
    have q : (netE ps != 0) = true := by simpa using hE
    generalize netE ps = E at *
    go_enter Try.func64, Try.ntmps64
    go_wp2_with (go_at_call 105; (with_reducible refine ST1.out.mono ?_); rintro e w1 ⟨k1, rfl⟩; have K1 := Lib.hid k1; clear k1)
    go_ret2
    exact sumRes_nil HS.out hE K1.out

end Go.Proofs.Ytbidafbllnhmnaa

-- SameD
namespace Go.Proofs.Ytbidafbllnhmnaa
open Go.RowKit
set_option linter.unusedVariables false

theorem neqD (a b c d e f : Int) (w : World) : (binOp .neq 45 (.agg #[.int .i64 a, .int .i64 b, .int .i64 c]) (.agg #[.int .i64 d, .int .i64 e, .int .i64 f])).run Try.prog w = .ok (.bool (!decide ((a, b, c) = (d, e, f)))) w := by
  have u3 := Try.underlying3
  have hS : Try.prog.underlying 45 = some (.struct (Try.prog.fieldsOf 45)) := by kernel_rfl
  have hp : Try.prog.stoodInHeld 45 = false := by kernel_rfl
  have a3 : ∀ w, (isAgg 3).run Try.prog w = .ok false w := fun w => by kernel_rfl
  have h : ∀ w, (Op.equalIn (9999 + 1) 45 (.agg #[.int .i64 a, .int .i64 b, .int .i64 c]) (.agg #[.int .i64 d, .int .i64 e, .int .i64 f])).run Try.prog w = .ok (decide ((a, b, c) = (d, e, f))) w := fun w => by
    rw [run_equalIn_agg w 9999 45 _ _ hS hp]
    simp only [Program.fieldsOf, Try.underlying45]
    go_simp
    by_cases h1 : a = d <;> by_cases h2 : b = e <;> by_cases h3 : c = f <;> simp [h1, h2, h3]
  simp only [binOp, Op.equal, Op.maxDepth, Sem.run_bind]
  rw [show (10000 : Nat) = 9999 + 1 from rfl, h]
  simp

theorem sameD_len (a1 a2 : Option Addr) (n1 n2 c1 c2 : Nat) (w : World) (h : n1 ≠ n2) : Calls Try.prog 21 #[.slice a1 n1 c1, .slice a2 n2 c2] w fun e w' => e = .returned (.bool false) ∧ Kpt w w' := by
  have q : ((n1 : Int) != (n2 : Int)) = true := bne_iff_ne.2 (by omega)
  go_enter Try.func21, Try.ntmps21
  go_wp2
  go_ret
  exact ⟨rfl, Kpt.refl _⟩

theorem sameD_none (a1 a2 : Option Addr) (c1 c2 : Nat) (w : World) : Calls Try.prog 21 #[.slice a1 0 c1, .slice a2 0 c2] w fun e w' => e = .returned (.bool true) ∧ Kpt w w' := by
  go_enter Try.func21, Try.ntmps21
  go_wp2
  go_loop [5] (fun i => i = .int .i64 0) (fun _ => 0)
  case atStart => exact rfl
  case round =>
    obtain rfl := hrel
    go_wp2
    go_ret
    exact ⟨rfl, Kpt.refl _⟩

set_option maxHeartbeats 1000000 in
theorem sameD_some (b1 o1 c1 b2 o2 c2 : Nat) (ps : List (Int × Int × Int)) (w : World) (hm : ps.length ≤ maxLen) (h1 : ∀ j, j < ps.length → PtAt w b1 (o1 + j * 3) (ps.getD j default)) (h2 : ∀ j, j < ps.length → PtAt w b2 (o2 + j * 3) (ps.getD j default)) :
    Calls Try.prog 21 #[.slice (some ⟨b1, o1, none⟩) ps.length c1, .slice (some ⟨b2, o2, none⟩) ps.length c2] w fun e w' => e = .returned (.bool true) ∧ Kpt w w' := by
  unfold maxLen at hm
  have H1 := Lib.hid h1; have H2 := Lib.hid h2
  clear h1 h2
  go_enter Try.func21, Try.ntmps21
  go_wp2
  go_loopw [5] (fun i wr => ∃ k : Nat, k ≤ ps.length ∧ i = .int .i64 k ∧ Hid (Kpt w wr)) (fun i _ => ps.length - (intOf i).toNat)
  case atStart => exact ⟨0, Nat.zero_le _, rfl, Kpt.refl _⟩
  case round =>
    obtain ⟨k, hk, rfl, HK⟩ := hrel
    by_cases hlt : k < ps.length
    · obtain ⟨c0, c1, c2⟩ := (H1.out k hlt).kpt HK.out
      obtain ⟨d0, d1, d2⟩ := (H2.out k hlt).kpt HK.out
      generalize ps.getD k default = p at c0 c1 c2 d0 d1 d2
      obtain ⟨A, U, N⟩ := p
      simp only at c0 c1 c2 d0 d1 d2
      have qn := neqD A U N A U N
      rw [decide_eq_true rfl, Bool.not_true] at qn
      have b0 : (0 : Int) ≤ (k : Int) := by omega
      have b1 : (k : Int) < (ps.length : Int) := by omega
      go_wp2
      go_quiet (fail)
      go_wp2
      go_roundw
      case rel => exact ⟨k + 1, by omega, by go_num, Kpt.drewN HK.out _⟩
      case measure => simp [intOf]; omega
    · go_wp2
      go_ret
      exact ⟨rfl, HK.out⟩

theorem sameD_any (v u : Value) (ps : List (Int × Int × Int)) (w : World) (h1 : ReadsP w v ps) (h2 : ReadsP w u ps) : Calls Try.prog 21 #[v, u] w fun e w' => e = .returned (.bool true) ∧ Kpt w w' := by
  have hm := h1.len
  rcases h1.cell with ⟨rfl, a, c, rfl⟩ | ⟨h0, b1, o1, c1, rfl, k1⟩
  · rcases h2.cell with ⟨_, a', c', rfl⟩ | ⟨h0, _⟩
    · exact sameD_none a a' c c' w
    · simp at h0
  · rcases h2.cell with ⟨e, _⟩ | ⟨_, b2, o2, c2, rfl, k2⟩
    · rw [e] at h0; simp at h0
    · exact sameD_some b1 o1 c1 b2 o2 c2 ps w hm k1 k2

end Go.Proofs.Ytbidafbllnhmnaa

-- SameP
namespace Go.Proofs.Ytbidafbllnhmnaa
open Go.RowKit
set_option linter.unusedVariables false

theorem neqP (a b c d e f : Int) (w : World) : (binOp .neq 97 (.agg #[.int .i64 a, .int .i64 b, .int .i64 c]) (.agg #[.int .i64 d, .int .i64 e, .int .i64 f])).run Try.prog w = .ok (.bool (!decide ((a, b, c) = (d, e, f)))) w := by
  have u3 := Try.underlying3
  have hS : Try.prog.underlying 97 = some (.struct (Try.prog.fieldsOf 97)) := by kernel_rfl
  have hp : Try.prog.stoodInHeld 97 = false := by kernel_rfl
  have a3 : ∀ w, (isAgg 3).run Try.prog w = .ok false w := fun w => by kernel_rfl
  have h : ∀ w, (Op.equalIn (9999 + 1) 97 (.agg #[.int .i64 a, .int .i64 b, .int .i64 c]) (.agg #[.int .i64 d, .int .i64 e, .int .i64 f])).run Try.prog w = .ok (decide ((a, b, c) = (d, e, f))) w := fun w => by
    rw [run_equalIn_agg w 9999 97 _ _ hS hp]
    simp only [Program.fieldsOf, Try.underlying97]
    go_simp
    by_cases h1 : a = d <;> by_cases h2 : b = e <;> by_cases h3 : c = f <;> simp [h1, h2, h3]
  simp only [binOp, Op.equal, Op.maxDepth, Sem.run_bind]
  rw [show (10000 : Nat) = 9999 + 1 from rfl, h]
  simp

theorem sameP_len (a1 a2 : Option Addr) (n1 n2 c1 c2 : Nat) (w : World) (h : n1 ≠ n2) : Calls Try.prog 65 #[.slice a1 n1 c1, .slice a2 n2 c2] w fun e w' => e = .returned (.bool false) ∧ Kpt w w' := by
  have q : ((n1 : Int) != (n2 : Int)) = true := bne_iff_ne.2 (by omega)
  go_enter Try.func65, Try.ntmps65
  go_wp2
  go_ret
  exact ⟨rfl, Kpt.refl _⟩

theorem sameP_none (a1 a2 : Option Addr) (c1 c2 : Nat) (w : World) : Calls Try.prog 65 #[.slice a1 0 c1, .slice a2 0 c2] w fun e w' => e = .returned (.bool true) ∧ Kpt w w' := by
  go_enter Try.func65, Try.ntmps65
  go_wp2
  go_loop [5] (fun i => i = .int .i64 0) (fun _ => 0)
  case atStart => exact rfl
  case round =>
    obtain rfl := hrel
    go_wp2
    go_ret
    exact ⟨rfl, Kpt.refl _⟩

set_option maxHeartbeats 1000000 in
theorem sameP_some (b1 o1 c1 b2 o2 c2 : Nat) (ps : List (Int × Int × Int)) (w : World) (hm : ps.length ≤ maxLen) (h1 : ∀ j, j < ps.length → PtAt w b1 (o1 + j * 3) (ps.getD j default)) (h2 : ∀ j, j < ps.length → PtAt w b2 (o2 + j * 3) (ps.getD j default)) :
    Calls Try.prog 65 #[.slice (some ⟨b1, o1, none⟩) ps.length c1, .slice (some ⟨b2, o2, none⟩) ps.length c2] w fun e w' => e = .returned (.bool true) ∧ Kpt w w' := by
  unfold maxLen at hm
  have H1 := Lib.hid h1; have H2 := Lib.hid h2
  clear h1 h2
  go_enter Try.func65, Try.ntmps65
  go_wp2
  go_loopw [5] (fun i wr => ∃ k : Nat, k ≤ ps.length ∧ i = .int .i64 k ∧ Hid (Kpt w wr)) (fun i _ => ps.length - (intOf i).toNat)
  case atStart => exact ⟨0, Nat.zero_le _, rfl, Kpt.refl _⟩
  case round =>
    obtain ⟨k, hk, rfl, HK⟩ := hrel
    by_cases hlt : k < ps.length
    · obtain ⟨c0, c1, c2⟩ := (H1.out k hlt).kpt HK.out
      obtain ⟨d0, d1, d2⟩ := (H2.out k hlt).kpt HK.out
      generalize ps.getD k default = p at c0 c1 c2 d0 d1 d2
      obtain ⟨A, U, N⟩ := p
      simp only at c0 c1 c2 d0 d1 d2
      have qn := neqP A U N A U N
      rw [decide_eq_true rfl, Bool.not_true] at qn
      have b0 : (0 : Int) ≤ (k : Int) := by omega
      have b1 : (k : Int) < (ps.length : Int) := by omega
      go_wp2
      go_quiet (fail)
      go_wp2
      go_roundw
      case rel => exact ⟨k + 1, by omega, by go_num, Kpt.drewN HK.out _⟩
      case measure => simp [intOf]; omega
    · go_wp2
      go_ret
      exact ⟨rfl, HK.out⟩

theorem sameP_any (v u : Value) (ps : List (Int × Int × Int)) (w : World) (h1 : ReadsP w v ps) (h2 : ReadsP w u ps) : Calls Try.prog 65 #[v, u] w fun e w' => e = .returned (.bool true) ∧ Kpt w w' := by
  have hm := h1.len
  rcases h1.cell with ⟨rfl, a, c, rfl⟩ | ⟨h0, b1, o1, c1, rfl, k1⟩
  · rcases h2.cell with ⟨_, a', c', rfl⟩ | ⟨h0, _⟩
    · exact sameP_none a a' c c' w
    · simp at h0
  · rcases h2.cell with ⟨e, _⟩ | ⟨_, b2, o2, c2, rfl, k2⟩
    · rw [e] at h0; simp at h0
    · exact sameP_some b1 o1 c1 b2 o2 c2 ps w hm k1 k2

end Go.Proofs.Ytbidafbllnhmnaa

-- PenB
namespace Go.Proofs.Ytbidafbllnhmnaa
open Go.RowKit
set_option linter.unusedVariables false

theorem Try.infoTmB : (Try.prog.info? 41).map (fun i => (i.zero, i.size, i.bytes)) = some (some (.agg #[.int .i64 0, .int .i64 0, .int .i64 0, .int .i64 0]), 4, 32) := by kernel_rfl
/-- the terms of the first k classes are laid -/
def tmA (k : Nat) : Array Value := Array.ofFn (n := 24) fun i => .int .i64 (if i.val < 4 * k then [4, 7, 2, 100].getD (i.val % 4) 0 else 0)
theorem run_tms (w : World) : (Instr.makeSlice 25 (.int .i64 6) (.int .i64 6)).run Try.prog w = .ok (.slice (some ⟨w.heap.size, 0, none⟩) 6 6) (w.alloc (.cells (tmA 0) 41)) := by
  obtain ⟨i0, hi, hz0, hz1, hz2⟩ := info_parts Try.infoTmB
  have := run_make (P := Try.prog) w 25 41 i0 _ Try.underlying25 hi hz0 .i64 .i64 6 6 (by omega) (by omega) (by rw [hz2]; omega) (by omega)
  rw [hz1] at this
  have e : madeCells (Value.agg #[.int .i64 0, .int .i64 0, .int .i64 0, .int .i64 0]).cells ((6 : Int).toNat * 4) = tmA 0 := by kernel_rfl
  rw [e] at this
  exact this
def clsT : List (List Int) := List.replicate 6 [4, 7, 2, 100]
theorem tm_some (k i : Nat) (h : i < 24) : ∃ u, (tmA k)[i]? = some u := ⟨_, Array.getElem?_eq_getElem (by unfold tmA; simpa using h)⟩
def tmV : Array Value := #[.int .i64 4, .int .i64 7, .int .i64 2, .int .i64 100]
theorem tm_put : ∀ k, k < 6 → putL (tmA k) (k * 4) tmV.toList = tmA (k + 1) := by
  intro k hk
  rcases (show k = 0 ∨ k = 1 ∨ k = 2 ∨ k = 3 ∨ k = 4 ∨ k = 5 by omega) with rfl | rfl | rfl | rfl | rfl | rfl <;> kernel_rfl
theorem tm_one : tmV.all (·.oneCell') = true := by simp [tmV, Value.oneCell']
theorem tm_size : (Try.prog.info? 41).map (·.size) = some tmV.size := by kernel_rfl
theorem tm_there {w : World} {g k : Nat} (hk : k < 6) (h : Blk w g (tmA k) 41) : w.there g (k * 4) tmV.size := fun i hi => by
  have hi4 : i < 4 := hi
  obtain ⟨u, hu⟩ := tm_some k (k * 4 + i) (by omega)
  exact ⟨by rw [h.cell, hu]; rfl, h.frozen _⟩
theorem tm_at : ∀ k j, k < 6 → j < 4 → (tmA 6)[k * 4 + j]? = some (.int .i64 ((clsT.getD k []).getD j 0)) := by
  intro k j hk hj
  rcases (show k = 0 ∨ k = 1 ∨ k = 2 ∨ k = 3 ∨ k = 4 ∨ k = 5 by omega) with rfl | rfl | rfl | rfl | rfl | rfl <;> rcases (show j = 0 ∨ j = 1 ∨ j = 2 ∨ j = 3 by omega) with rfl | rfl | rfl | rfl <;> kernel_rfl

theorem tm_laid {w : World} {g k : Nat} (hk : k < 6) (h : Blk w g (tmA k) 41) : Blk (w.setCells g (k * 4) tmV.toList) g (tmA (k + 1)) 41 := by
  have := heap_setCells tmV.toList (k * 4) h
  rw [tm_put k hk] at this
  exact this
set_option maxHeartbeats 400000 in
theorem classes_run (w : World) : Calls Try.prog 62 #[] w fun e w' => ∃ v, e = .returned v ∧ ReadsT w' v clsT ∧ Kpt w w' := by
  have MK := run_tms w
  go_enter Try.func62, Try.ntmps62
  go_wp2
  go_loopw [2] (fun i wr => ∃ k : Nat, k ≤ 6 ∧ i = .int .i64 k ∧ Hid (Blk wr w.heap.size (tmA k) 41) ∧ Hid (Kpt w wr)) (fun i _ => 6 - (intOf i).toNat)
  case atStart => exact ⟨0, Nat.zero_le _, rfl, Blk.made w _ _, (Kpt.refl w).alloc _⟩
  case round =>
    obtain ⟨k, hk, rfl, HB, HK⟩ := hrel
    clear MK
    by_cases hlt : k < 6
    · have k0 : (k : Int) < 6 := by omega
      go_wp2_with (first
        | (go_at_call 68; (with_reducible refine (someT_run _).mono ?_); rintro z w2 ⟨rfl, k2⟩; have B2 := Lib.hid (HB.out.kpt k2); have K2 := Lib.hid (ktr HK.out k2); clear k2)
        | (refine wpList_store_mid rfl 41 (.tmp 13) (.tmp 12) rfl w.heap.size (k * 4) tmV rfl rfl (tm_there hlt B2.out) tm_size tm_one ?_; have B3 := Lib.hid (tm_laid hlt B2.out); have K3 := Lib.hid (Kpt.setCells K2.out (Nat.le_refl w.heap.size) (k * 4) tmV.toList); generalize World.setCells w2 w.heap.size (k * 4) tmV.toList = w3 at B3 K3 ⊢))
      go_roundw
      case rel => exact ⟨k + 1, by omega, by go_num, B3.out, K3.out⟩
      case measure => simp [intOf]; omega
    · obtain rfl : k = 6 := by omega
      go_wp2
      go_ret
      refine ⟨_, rfl, ⟨_, 6, rfl, by decide, fun k hk => ⟨w.heap.size, 0, rfl, fun j hj => ?_⟩⟩, HK.out⟩
      rw [Nat.zero_add, HB.out.cell]
      exact tm_at k j hk hj

def tenL (k : Nat) : List Int := List.replicate k 100000 ++ List.replicate (20 - k) 0
theorem tenL_len (k : Nat) (h : k ≤ 20) : (tenL k).length = 20 := by simp [tenL]; omega
set_option maxHeartbeats 400000 in
theorem tenEach_run (w : World) : Calls Try.prog 63 #[] w fun e w' => ∃ v, e = .returned v ∧ Reads w' v (tenL 20) ∧ Kpt w w' := by
  have MK : (Instr.makeSlice 22 (.int .i64 20) (.int .i64 20)).run Try.prog w = .ok (.slice (some ⟨w.heap.size, 0, none⟩) 20 20) (w.alloc (.cells (Array.replicate 20 (Value.int .i64 0)) 3)) := run_zeros w 20 (by omega)
  have R0 : Hid (Row (w.alloc (.cells (Array.replicate 20 (Value.int .i64 0)) 3)) w.heap.size (tenL 0)) := Row.made w 20
  generalize hW : w.alloc (.cells (Array.replicate 20 (Value.int .i64 0)) 3) = W at MK R0
  have KW : Hid (Kpt w W) := by rw [← hW]; exact (Kpt.refl w).alloc _
  clear hW
  go_enter Try.func63, Try.ntmps63
  go_wp2
  go_loopw [2] (fun i wr => ∃ k : Nat, k ≤ 20 ∧ i = .int .i64 k ∧ Hid (Row wr w.heap.size (tenL k)) ∧ Hid (Kpt w wr)) (fun i _ => 20 - (intOf i).toNat)
  case atStart => exact ⟨0, Nat.zero_le _, rfl, R0.out, KW.out⟩
  case round =>
    obtain ⟨k, hk, rfl, HR, HK⟩ := hrel
    clear MK
    by_cases hlt : k < 20
    · have c1 := HR.out.cell (j := k) (by rw [tenL_len k hk]; exact hlt)
      have f1 := HR.out.frozen k
      have hp : (tenL k).set k 100000 = tenL (k + 1) := by
        unfold tenL
        rw [List.set_append_right _ _ (by simp), List.length_replicate, Nat.sub_self, show 20 - k = (20 - (k + 1)) + 1 by omega, List.replicate_succ, List.set_cons_zero, List.replicate_succ', List.append_assoc]; rfl
      have HP := Lib.hid hp
      clear hp
      have k0 : (k : Int) < 20 := by omega
      go_wp2
      go_roundw
      case rel => exact ⟨k + 1, by omega, by go_num, by unfold Hid; rw [← HP.out]; exact HR.out.put k _, HK.out.setCell (Nat.le_refl _) _⟩
      case measure => simp [intOf]; omega
    · obtain rfl : k = 20 := by omega
      have R : Reads wr (.slice (some ⟨w.heap.size, 0, none⟩) 20 20) (tenL 20) := reads_mk (tenL_len 20 (Nat.le_refl _)) (by unfold maxLen; decide) (fun j hj => by rw [Nat.zero_add]; exact HR.out.cell hj)
      have HRR := Lib.hid R
      clear R
      go_wp2
      go_ret
      exact ⟨_, rfl, HRR.out, HK.out⟩

end Go.Proofs.Ytbidafbllnhmnaa

-- PenE
namespace Go.Proofs.Ytbidafbllnhmnaa
open Go.RowKit
set_option linter.unusedVariables false

def fl0 : List Int := [7, 1, 2, 0, 3, 739935, 3000, 0, 0, 0]
theorem pb_lkE : lkE 96 wkH 4 7 2 100 7 1 2 0 3 739935 3000 0 0 0 739937 = 0 := by
  unfold lkE; rw [if_pos ab_ct, if_pos (by decide), if_pos (by decide)]; exact ab_w
theorem pb_lk : lkL 96 wkH (tlOf clsT fl0) fl0 739937 = 0 := pb_lkE
theorem pb_st : stL 96 wkH (tlOf clsT fl0) fl0 739937 = 1 := by
  show stgR 96 wkH 4 7 2 100 7 1 2 0 3 739935 3000 0 0 0 739937 = 1
  unfold stgR; rw [if_pos pb_lkE, ab_d1, ab_d2, ab_d3]; decide
theorem pb_cs : csV 96 wkH (tlOf clsT fl0) fl0 (prOf (tenL 20) fl0) 739937 = 3 := by
  unfold csV csL; rw [if_pos pb_lk, pb_st, if_neg (by decide)]; decide +kernel
theorem pb_pre : preE 96 wkH clsT [fl0] (tenL 20) 739937 = 0 := by
  unfold preE; rw [ab_cal]; decide +kernel
theorem pb_pd : pdE 96 wkH clsT 739937 [fl0] = 0 := (pd_0 pb_lk).trans rfl
theorem pb_dl : dueL 96 wkH clsT (tenL 20) 739937 [fl0] = [(1, 2, 3)] := by
  rw [dueL_p pb_lk (by rw [pb_cs]; decide), pb_cs]; rfl
theorem pb_E : dayE 96 wkH clsT [fl0] (tenL 20) 739937 = 0 := by
  rw [(day_B pb_pre).1, pb_pd]
theorem pb_D : dayD 96 wkH clsT [fl0] (tenL 20) 739937 = [(1, 2, 3)] := by
  rw [(day_B pb_pre).2, if_pos pb_pd, pb_dl]
theorem pb_E2 : dayE 96 wkH clsT [] (tenL 20) 739936 = 4 := by
  have h : preE 96 wkH clsT [] (tenL 20) 739936 = 4 := by unfold preE; rw [ab_cal]; decide +kernel
  rw [(day_A (by rw [h]; decide)).1, h]
theorem pb_sE : sumE [(1, 2, 3)] = 0 := by decide +kernel
theorem pb_sD : sumD [(1, 2, 3)] = [(1, 0, -3), (2, 0, 3)] := by decide +kernel
theorem pb_s0 : sumE [] = 5 := by decide +kernel
theorem pb_dly : dlyQ 3000 100000 100 = 3 ∧ dlyE 3000 100000 100 = 0 := by decide +kernel

end Go.Proofs.Ytbidafbllnhmnaa

-- PenW
namespace Go.Proofs.Ytbidafbllnhmnaa
open Go.RowKit
set_option linter.unusedVariables false

theorem rf_one {w : World} {g : Nat} (h : Blk w g #[.int .i64 7, .int .i64 1, .int .i64 2, .int .i64 0, .int .i64 3, .int .i64 739935, .int .i64 3000, .int .i64 0, .int .i64 0, .int .i64 0] 43) : ReadsF w (.slice (some ⟨g, 0, none⟩) 1 1) [fl0] := by
  refine ⟨_, 1, rfl, by decide, fun l hl => ?_, fun k hk => ⟨g, 0, rfl, ?_⟩⟩
  · rw [List.mem_singleton.1 hl]; unfold FlB fl0; decide
  · obtain rfl : k = 0 := by simpa using hk
    intro j hj
    rcases (show j = 0 ∨ j = 1 ∨ j = 2 ∨ j = 3 ∨ j = 4 ∨ j = 5 ∨ j = 6 ∨ j = 7 ∨ j = 8 ∨ j = 9 by omega) with rfl | rfl | rfl | rfl | rfl | rfl | rfl | rfl | rfl | rfl <;> exact h.cell _

theorem inp_two : InP [((1 : Int), (0 : Int), (-3 : Int)), (2, 0, 3)] := by
  intro p hp
  rcases List.mem_cons.1 hp with rfl | hp
  · decide
  · rw [List.mem_singleton.1 hp]; decide
theorem rp_one {w : World} {g : Nat} {T : TypeId} (h : Blk w g #[.int .i64 1, .int .i64 2, .int .i64 3] T) : ReadsP w (.slice (some ⟨g, 0, none⟩) 1 1) [(1, 2, 3)] := by
  refine ⟨_, 1, rfl, (fun e => by cases e), (by decide), (fun p hp => by rw [List.mem_singleton.1 hp]; decide), fun j hj => ⟨g, 0, rfl, ?_⟩⟩
  obtain rfl : j = 0 := by simpa using hj
  exact ⟨h.cell _, h.cell _, h.cell _⟩
theorem rp_two {w : World} {g : Nat} {T : TypeId} (h : Blk w g #[.int .i64 1, .int .i64 0, .int .i64 (-3), .int .i64 2, .int .i64 0, .int .i64 3] T) : ReadsP w (.slice (some ⟨g, 0, none⟩) 2 2) [(1, 0, -3), (2, 0, 3)] := by
  refine ⟨_, 2, rfl, (fun e => by cases e), (by decide), inp_two, fun j hj => ⟨g, 0, rfl, ?_⟩⟩
  rcases (show j = 0 ∨ j = 1 by have : j < 2 := hj; omega) with rfl | rfl
  · exact ⟨h.cell _, h.cell _, h.cell _⟩
  · exact ⟨h.cell _, h.cell _, h.cell _⟩

set_option maxRecDepth 100000 in
set_option maxHeartbeats 1000000 in
theorem penaltyBegun (w : World) : Calls Try.prog 18 #[] w fun e w' => e = .returned (.bool true) ∧ Kpt w w' := by
  have DY := Lib.hid (fun w' => daily_any 3000 100000 100 w')
  rw [pb_dly.1, pb_dly.2] at DY
  have SF := Lib.hid (fun w' => someF_run w')
  go_enter Try.func18, Try.ntmps18
  go_upto_region 4 with (first
    | (go_at_call 14; (with_reducible refine (DY.out _).mono ?_); rintro e w1 ⟨rfl, k1⟩; have K1 := Lib.hid k1; clear k1)
    | (go_at_call 60; (with_reducible refine (SF.out _).mono ?_); rintro e w2 ⟨rfl, k2⟩; have K2 := Lib.hid (ktr K1.out k2); clear k2; have ZB : Hid (Blk (w2.alloc (.cells #[.int .i64 0, .int .i64 0, .int .i64 0, .int .i64 0, .int .i64 0, .int .i64 0, .int .i64 0, .int .i64 0, .int .i64 0, .int .i64 0] 43)) w2.heap.size _ 43) := Blk.made w2 _ 43))
  have BX : Hid (Blk (w2.alloc (.cells #[.int .i64 7, .int .i64 1, .int .i64 2, .int .i64 0, .int .i64 3, .int .i64 739935, .int .i64 3000, .int .i64 0, .int .i64 0, .int .i64 0] 43)) w2.heap.size #[.int .i64 7, .int .i64 1, .int .i64 2, .int .i64 0, .int .i64 3, .int .i64 739935, .int .i64 3000, .int .i64 0, .int .i64 0, .int .i64 0] 43) := Blk.made w2 _ _
  have K0 : Hid (Kpt w (w2.alloc (.cells #[.int .i64 7, .int .i64 1, .int .i64 2, .int .i64 0, .int .i64 3, .int .i64 739935, .int .i64 3000, .int .i64 0, .int .i64 0, .int .i64 0] 43))) := Kpt.alloc K2.out _
  clear DY SF ZB K1 K2
  generalize w2.alloc (.cells #[.int .i64 7, .int .i64 1, .int .i64 2, .int .i64 0, .int .i64 3, .int .i64 739935, .int .i64 3000, .int .i64 0, .int .i64 0, .int .i64 0] 43) = W0 at BX K0 ⊢
  generalize w2.heap.size = B at BX ⊢
  go_cut [4, 5] from 18 to 26 (fun v4 v5 wc => v5 = .int .i64 0 ∧ Hid (ReadsP wc v4 [(1, 2, 3)]) ∧ Hid (Kpt w wc))
  case first =>
    have KA : Hid (Kpt W0 W0) := Kpt.refl _
    have DAY : Hid (∀ W vw tv lv pv, Reads W vw wkH → ReadsT W tv clsT → ReadsF W lv [fl0] → Reads W pv (tenL 20) → Calls Try.prog 15 #[calV 96 vw, tv, lv, pv, .int .i64 739937] W fun e w' => ∃ dv, e = .returned (.tuple #[dv, .int .i64 0]) ∧ ReadsP w' dv [(1, 2, 3)] ∧ Kpt W w') := fun W vw tv lv pv h1 h2 h3 h4 => by
      refine (day_any 96 739937 vw tv lv pv wkH clsT [fl0] (tenL 20) W h1 wk_fits h2 h3 h4).mono ?_
      rintro e w' ⟨dv, rfl, ho, hk⟩
      rw [pb_E]
      rw [pb_D] at ho
      exact ⟨dv, rfl, ho.reads (fun p hp => by rw [List.mem_singleton.1 hp]; decide), hk⟩
    have x0 : World.cell? W0 ⟨B, 0, none⟩ = some (.int .i64 7) := BX.out.cell 0
    have x1 : World.cell? W0 ⟨B, 1, none⟩ = some (.int .i64 1) := BX.out.cell 1
    have x2 : World.cell? W0 ⟨B, 2, none⟩ = some (.int .i64 2) := BX.out.cell 2
    have x3 : World.cell? W0 ⟨B, 3, none⟩ = some (.int .i64 0) := BX.out.cell 3
    have x4 : World.cell? W0 ⟨B, 4, none⟩ = some (.int .i64 3) := BX.out.cell 4
    have x5 : World.cell? W0 ⟨B, 5, none⟩ = some (.int .i64 739935) := BX.out.cell 5
    have x6 : World.cell? W0 ⟨B, 6, none⟩ = some (.int .i64 3000) := BX.out.cell 6
    have x7 : World.cell? W0 ⟨B, 7, none⟩ = some (.int .i64 0) := BX.out.cell 7
    have x8 : World.cell? W0 ⟨B, 8, none⟩ = some (.int .i64 0) := BX.out.cell 8
    have x9 : World.cell? W0 ⟨B, 9, none⟩ = some (.int .i64 0) := BX.out.cell 9
    go_region_held3 (fun w' => World.cell? w' ⟨B, 0, none⟩ = some (.int .i64 7) ∧ World.cell? w' ⟨B, 1, none⟩ = some (.int .i64 1) ∧ World.cell? w' ⟨B, 2, none⟩ = some (.int .i64 2) ∧ World.cell? w' ⟨B, 3, none⟩ = some (.int .i64 0) ∧ World.cell? w' ⟨B, 4, none⟩ = some (.int .i64 3) ∧ World.cell? w' ⟨B, 5, none⟩ = some (.int .i64 739935) ∧ World.cell? w' ⟨B, 6, none⟩ = some (.int .i64 3000) ∧ World.cell? w' ⟨B, 7, none⟩ = some (.int .i64 0) ∧ World.cell? w' ⟨B, 8, none⟩ = some (.int .i64 0) ∧ World.cell? w' ⟨B, 9, none⟩ = some (.int .i64 0))
      (first
        | go_keep
        | (exact ⟨x0, x1, x2, x3, x4, x5, x6, x7, x8, x9⟩))
      (first
      | (go_at_call 61; (with_reducible refine (week_any _).mono ?_); rintro z wa ⟨vw, rfl, rd, kk⟩; have HWK := Lib.hid rd; have KB : Hid (Kpt W0 wa) := ktr KA.out (by first | exact kk | exact ktr ((Kpt.refl _).drewN 1) kk | exact ktr ((Kpt.refl _).alloc _) kk | exact ktr (((Kpt.refl _).drewN 1).alloc _) kk | exact ktr (((Kpt.refl _).alloc _).drewN 1) kk); have KA := KB; have x0 : World.cell? wa ⟨B, 0, none⟩ = some (.int .i64 7) := (BX.out.kpt KA.out).cell 0; have x1 : World.cell? wa ⟨B, 1, none⟩ = some (.int .i64 1) := (BX.out.kpt KA.out).cell 1; have x2 : World.cell? wa ⟨B, 2, none⟩ = some (.int .i64 2) := (BX.out.kpt KA.out).cell 2; have x3 : World.cell? wa ⟨B, 3, none⟩ = some (.int .i64 0) := (BX.out.kpt KA.out).cell 3; have x4 : World.cell? wa ⟨B, 4, none⟩ = some (.int .i64 3) := (BX.out.kpt KA.out).cell 4; have x5 : World.cell? wa ⟨B, 5, none⟩ = some (.int .i64 739935) := (BX.out.kpt KA.out).cell 5; have x6 : World.cell? wa ⟨B, 6, none⟩ = some (.int .i64 3000) := (BX.out.kpt KA.out).cell 6; have x7 : World.cell? wa ⟨B, 7, none⟩ = some (.int .i64 0) := (BX.out.kpt KA.out).cell 7; have x8 : World.cell? wa ⟨B, 8, none⟩ = some (.int .i64 0) := (BX.out.kpt KA.out).cell 8; have x9 : World.cell? wa ⟨B, 9, none⟩ = some (.int .i64 0) := (BX.out.kpt KA.out).cell 9; (first | have BL : Hid (Blk wa W0.heap.size #[.int .i64 7, .int .i64 1, .int .i64 2, .int .i64 0, .int .i64 3, .int .i64 739935, .int .i64 3000, .int .i64 0, .int .i64 0, .int .i64 0] 43) := Lib.hid ((Blk.made _ #[.int .i64 7, .int .i64 1, .int .i64 2, .int .i64 0, .int .i64 3, .int .i64 739935, .int .i64 3000, .int .i64 0, .int .i64 0, .int .i64 0] 43).kpt kk) | have BL : Hid (Blk wa W0.heap.size #[.int .i64 7, .int .i64 1, .int .i64 2, .int .i64 0, .int .i64 3, .int .i64 739935, .int .i64 3000, .int .i64 0, .int .i64 0, .int .i64 0] 43) := Lib.hid (((Blk.made _ #[.int .i64 7, .int .i64 1, .int .i64 2, .int .i64 0, .int .i64 3, .int .i64 739935, .int .i64 3000, .int .i64 0, .int .i64 0, .int .i64 0] 43).drew).kpt kk) | have BL : Hid (Blk wa W0.heap.size #[.int .i64 7, .int .i64 1, .int .i64 2, .int .i64 0, .int .i64 3, .int .i64 739935, .int .i64 3000, .int .i64 0, .int .i64 0, .int .i64 0] 43) := Lib.hid ((Blk.made _ #[.int .i64 7, .int .i64 1, .int .i64 2, .int .i64 0, .int .i64 3, .int .i64 739935, .int .i64 3000, .int .i64 0, .int .i64 0, .int .i64 0] 43).kpt (ktr ((Kpt.refl _).drewN 1) kk)) | skip); clear rd kk)
      | (go_at_call 62; (with_reducible refine (classes_run _).mono ?_); rintro z wb ⟨tv, rfl, rd, kk⟩; have HCL := Lib.hid rd; have KB : Hid (Kpt W0 wb) := ktr KA.out (by first | exact kk | exact ktr ((Kpt.refl _).drewN 1) kk | exact ktr ((Kpt.refl _).alloc _) kk | exact ktr (((Kpt.refl _).drewN 1).alloc _) kk | exact ktr (((Kpt.refl _).alloc _).drewN 1) kk); have KA := KB; have HWK := Lib.hid (HWK.out.kpt (by first | exact kk | exact ktr ((Kpt.refl _).drewN 1) kk | exact ktr ((Kpt.refl _).alloc _) kk | exact ktr (((Kpt.refl _).drewN 1).alloc _) kk | exact ktr (((Kpt.refl _).alloc _).drewN 1) kk)); have x0 : World.cell? wb ⟨B, 0, none⟩ = some (.int .i64 7) := (BX.out.kpt KA.out).cell 0; have x1 : World.cell? wb ⟨B, 1, none⟩ = some (.int .i64 1) := (BX.out.kpt KA.out).cell 1; have x2 : World.cell? wb ⟨B, 2, none⟩ = some (.int .i64 2) := (BX.out.kpt KA.out).cell 2; have x3 : World.cell? wb ⟨B, 3, none⟩ = some (.int .i64 0) := (BX.out.kpt KA.out).cell 3; have x4 : World.cell? wb ⟨B, 4, none⟩ = some (.int .i64 3) := (BX.out.kpt KA.out).cell 4; have x5 : World.cell? wb ⟨B, 5, none⟩ = some (.int .i64 739935) := (BX.out.kpt KA.out).cell 5; have x6 : World.cell? wb ⟨B, 6, none⟩ = some (.int .i64 3000) := (BX.out.kpt KA.out).cell 6; have x7 : World.cell? wb ⟨B, 7, none⟩ = some (.int .i64 0) := (BX.out.kpt KA.out).cell 7; have x8 : World.cell? wb ⟨B, 8, none⟩ = some (.int .i64 0) := (BX.out.kpt KA.out).cell 8; have x9 : World.cell? wb ⟨B, 9, none⟩ = some (.int .i64 0) := (BX.out.kpt KA.out).cell 9; (first | have BL := Lib.hid (BL.out.kpt (by first | exact kk | exact ktr ((Kpt.refl _).drewN 1) kk | exact ktr ((Kpt.refl _).alloc _) kk | exact ktr (((Kpt.refl _).drewN 1).alloc _) kk | exact ktr (((Kpt.refl _).alloc _).drewN 1) kk)) | have BL : Hid (Blk wb wa.heap.size #[.int .i64 7, .int .i64 1, .int .i64 2, .int .i64 0, .int .i64 3, .int .i64 739935, .int .i64 3000, .int .i64 0, .int .i64 0, .int .i64 0] 43) := Lib.hid ((Blk.made _ #[.int .i64 7, .int .i64 1, .int .i64 2, .int .i64 0, .int .i64 3, .int .i64 739935, .int .i64 3000, .int .i64 0, .int .i64 0, .int .i64 0] 43).kpt kk) | have BL : Hid (Blk wb wa.heap.size #[.int .i64 7, .int .i64 1, .int .i64 2, .int .i64 0, .int .i64 3, .int .i64 739935, .int .i64 3000, .int .i64 0, .int .i64 0, .int .i64 0] 43) := Lib.hid (((Blk.made _ #[.int .i64 7, .int .i64 1, .int .i64 2, .int .i64 0, .int .i64 3, .int .i64 739935, .int .i64 3000, .int .i64 0, .int .i64 0, .int .i64 0] 43).drew).kpt kk) | have BL : Hid (Blk wb wa.heap.size #[.int .i64 7, .int .i64 1, .int .i64 2, .int .i64 0, .int .i64 3, .int .i64 739935, .int .i64 3000, .int .i64 0, .int .i64 0, .int .i64 0] 43) := Lib.hid ((Blk.made _ #[.int .i64 7, .int .i64 1, .int .i64 2, .int .i64 0, .int .i64 3, .int .i64 739935, .int .i64 3000, .int .i64 0, .int .i64 0, .int .i64 0] 43).kpt (ktr ((Kpt.refl _).drewN 1) kk)) | skip); clear rd kk)
      | (go_at_call 63; (with_reducible refine (tenEach_run _).mono ?_); rintro z wd ⟨pv, rfl, rd, kk⟩; have HTE := Lib.hid rd; have KB : Hid (Kpt W0 wd) := ktr KA.out (by first | exact kk | exact ktr ((Kpt.refl _).drewN 1) kk | exact ktr ((Kpt.refl _).alloc _) kk | exact ktr (((Kpt.refl _).drewN 1).alloc _) kk | exact ktr (((Kpt.refl _).alloc _).drewN 1) kk); have KA := KB; have HWK := Lib.hid (HWK.out.kpt (by first | exact kk | exact ktr ((Kpt.refl _).drewN 1) kk | exact ktr ((Kpt.refl _).alloc _) kk | exact ktr (((Kpt.refl _).drewN 1).alloc _) kk | exact ktr (((Kpt.refl _).alloc _).drewN 1) kk)); have HCL := Lib.hid (HCL.out.kpt (by first | exact kk | exact ktr ((Kpt.refl _).drewN 1) kk | exact ktr ((Kpt.refl _).alloc _) kk | exact ktr (((Kpt.refl _).drewN 1).alloc _) kk | exact ktr (((Kpt.refl _).alloc _).drewN 1) kk)); have x0 : World.cell? wd ⟨B, 0, none⟩ = some (.int .i64 7) := (BX.out.kpt KA.out).cell 0; have x1 : World.cell? wd ⟨B, 1, none⟩ = some (.int .i64 1) := (BX.out.kpt KA.out).cell 1; have x2 : World.cell? wd ⟨B, 2, none⟩ = some (.int .i64 2) := (BX.out.kpt KA.out).cell 2; have x3 : World.cell? wd ⟨B, 3, none⟩ = some (.int .i64 0) := (BX.out.kpt KA.out).cell 3; have x4 : World.cell? wd ⟨B, 4, none⟩ = some (.int .i64 3) := (BX.out.kpt KA.out).cell 4; have x5 : World.cell? wd ⟨B, 5, none⟩ = some (.int .i64 739935) := (BX.out.kpt KA.out).cell 5; have x6 : World.cell? wd ⟨B, 6, none⟩ = some (.int .i64 3000) := (BX.out.kpt KA.out).cell 6; have x7 : World.cell? wd ⟨B, 7, none⟩ = some (.int .i64 0) := (BX.out.kpt KA.out).cell 7; have x8 : World.cell? wd ⟨B, 8, none⟩ = some (.int .i64 0) := (BX.out.kpt KA.out).cell 8; have x9 : World.cell? wd ⟨B, 9, none⟩ = some (.int .i64 0) := (BX.out.kpt KA.out).cell 9; (first | have BL := Lib.hid (BL.out.kpt (by first | exact kk | exact ktr ((Kpt.refl _).drewN 1) kk | exact ktr ((Kpt.refl _).alloc _) kk | exact ktr (((Kpt.refl _).drewN 1).alloc _) kk | exact ktr (((Kpt.refl _).alloc _).drewN 1) kk)) | have BL : Hid (Blk wd wb.heap.size #[.int .i64 7, .int .i64 1, .int .i64 2, .int .i64 0, .int .i64 3, .int .i64 739935, .int .i64 3000, .int .i64 0, .int .i64 0, .int .i64 0] 43) := Lib.hid ((Blk.made _ #[.int .i64 7, .int .i64 1, .int .i64 2, .int .i64 0, .int .i64 3, .int .i64 739935, .int .i64 3000, .int .i64 0, .int .i64 0, .int .i64 0] 43).kpt kk) | have BL : Hid (Blk wd wb.heap.size #[.int .i64 7, .int .i64 1, .int .i64 2, .int .i64 0, .int .i64 3, .int .i64 739935, .int .i64 3000, .int .i64 0, .int .i64 0, .int .i64 0] 43) := Lib.hid (((Blk.made _ #[.int .i64 7, .int .i64 1, .int .i64 2, .int .i64 0, .int .i64 3, .int .i64 739935, .int .i64 3000, .int .i64 0, .int .i64 0, .int .i64 0] 43).drew).kpt kk) | have BL : Hid (Blk wd wb.heap.size #[.int .i64 7, .int .i64 1, .int .i64 2, .int .i64 0, .int .i64 3, .int .i64 739935, .int .i64 3000, .int .i64 0, .int .i64 0, .int .i64 0] 43) := Lib.hid ((Blk.made _ #[.int .i64 7, .int .i64 1, .int .i64 2, .int .i64 0, .int .i64 3, .int .i64 739935, .int .i64 3000, .int .i64 0, .int .i64 0, .int .i64 0] 43).kpt (ktr ((Kpt.refl _).drewN 1) kk)) | skip); clear rd kk)
      | (go_at_call 15; (first | (with_reducible refine (DAY.out _ _ _ _ _ HWK.out HCL.out (rf_one BL.out) HTE.out).mono ?_) | (with_reducible refine (DAY.out _ _ _ _ _ (HWK.out.kpt ((Kpt.refl _).alloc _)) (HCL.out.kpt ((Kpt.refl _).alloc _)) (rf_one (Blk.made _ #[.int .i64 7, .int .i64 1, .int .i64 2, .int .i64 0, .int .i64 3, .int .i64 739935, .int .i64 3000, .int .i64 0, .int .i64 0, .int .i64 0] 43)) (HTE.out.kpt ((Kpt.refl _).alloc _))).mono ?_)); rintro z we ⟨dv, rfl, rd, kk⟩; have HDV := Lib.hid rd; have KF : Hid (Kpt W0 we) := ktr KA.out (by first | exact kk | exact ktr ((Kpt.refl _).drewN 1) kk | exact ktr ((Kpt.refl _).alloc _) kk | exact ktr (((Kpt.refl _).drewN 1).alloc _) kk | exact ktr (((Kpt.refl _).alloc _).drewN 1) kk); have KA := KF; have KE : Hid (Kpt w we) := ktr K0.out KF.out; have x0 : World.cell? we ⟨B, 0, none⟩ = some (.int .i64 7) := (BX.out.kpt KA.out).cell 0; have x1 : World.cell? we ⟨B, 1, none⟩ = some (.int .i64 1) := (BX.out.kpt KA.out).cell 1; have x2 : World.cell? we ⟨B, 2, none⟩ = some (.int .i64 2) := (BX.out.kpt KA.out).cell 2; have x3 : World.cell? we ⟨B, 3, none⟩ = some (.int .i64 0) := (BX.out.kpt KA.out).cell 3; have x4 : World.cell? we ⟨B, 4, none⟩ = some (.int .i64 3) := (BX.out.kpt KA.out).cell 4; have x5 : World.cell? we ⟨B, 5, none⟩ = some (.int .i64 739935) := (BX.out.kpt KA.out).cell 5; have x6 : World.cell? we ⟨B, 6, none⟩ = some (.int .i64 3000) := (BX.out.kpt KA.out).cell 6; have x7 : World.cell? we ⟨B, 7, none⟩ = some (.int .i64 0) := (BX.out.kpt KA.out).cell 7; have x8 : World.cell? we ⟨B, 8, none⟩ = some (.int .i64 0) := (BX.out.kpt KA.out).cell 8; have x9 : World.cell? we ⟨B, 9, none⟩ = some (.int .i64 0) := (BX.out.kpt KA.out).cell 9; clear rd kk))
    all_goals go_wp2
    all_goals go_meet
    all_goals (case rel => exact ⟨rfl, HDV.out, KE.out⟩)
  case rest =>
  obtain ⟨rfl, hp, hk⟩ := hcut
  have HP := hp
  have KP := hk
  clear hp hk BX K0
  have HQ : Hid (ReadsP wc (.slice none 0 0) []) := readsP_nil _ none 0 (fun _ => rfl)
  have SM1 : Hid (∀ W v, ReadsP W v [(1, 2, 3)] → Calls Try.prog 64 #[v] W fun e w' => ∃ dv, e = .returned (.tuple #[dv, .int .i64 0]) ∧ ReadsP w' dv [(1, 0, -3), (2, 0, 3)] ∧ Kpt W w') := fun W v h => by
    refine (sum_any v _ W h).mono ?_
    rintro e w' ⟨dv, rfl, ho, hk⟩
    rw [pb_sE]
    rw [pb_sD] at ho
    exact ⟨dv, rfl, ho.reads inp_two, hk⟩
  have SM2 : Hid (∀ W, Calls Try.prog 64 #[.slice none 0 0] W fun e w' => ∃ dv, e = .returned (.tuple #[dv, .int .i64 5]) ∧ Kpt W w') := fun W => by
    refine (sum_any _ [] W (readsP_nil W none 0 (fun _ => rfl))).mono ?_
    rintro e w' ⟨dv, rfl, ho, hk⟩
    rw [pb_s0]
    exact ⟨dv, rfl, hk⟩
  have DY2 : Hid (∀ W vw tv pv, Reads W vw wkH → ReadsT W tv clsT → Reads W pv (tenL 20) → Calls Try.prog 15 #[calV 96 vw, tv, .slice none 0 0, pv, .int .i64 739936] W fun e w' => ∃ dv, e = .returned (.tuple #[dv, .int .i64 4]) ∧ Kpt W w') := fun W vw tv pv h1 h2 h4 => by
    refine (day_any 96 739936 vw tv (.slice none 0 0) pv wkH clsT [] (tenL 20) W h1 wk_fits h2 ⟨none, 0, rfl, Nat.zero_le _, (fun l hl => by cases hl), fun k hk => absurd hk (Nat.not_lt_zero k)⟩ h4).mono ?_
    rintro e w' ⟨dv, rfl, ho, hk⟩
    rw [pb_E2]
    exact ⟨dv, rfl, hk⟩
  have PR : Hid (∀ W, Calls Try.prog 19 #[.slice none 0 0] W fun e w' => e = .returned (.int .i64 1) ∧ W = w') := fun W => prices_run (.slice none 0 0) [] W (reads_nil W none 0)
  go_wp2_with (first
    | (go_at_call 64; (with_reducible refine (SM2.out _).mono ?_); rintro z wk ⟨dv4, rfl, kk⟩; have KP := Lib.hid (ktr KP.out kk); have HP := Lib.hid (HP.out.kpt kk); have HQ := Lib.hid (HQ.out.kpt kk); clear kk)
    | (go_at_call 64; (with_reducible refine (SM1.out _ _ HP.out).mono ?_); rintro z wf ⟨dv2, rfl, rd, kk⟩; have HQ := Lib.hid rd; have KP := Lib.hid (ktr KP.out kk); have HP := Lib.hid (HP.out.kpt kk); clear rd kk)
    | (go_at_call 61; (with_reducible refine (week_any _).mono ?_); rintro z wg ⟨vw2, rfl, rd, kk⟩; have HWK := Lib.hid rd; have KP := Lib.hid (ktr KP.out kk); have HP := Lib.hid (HP.out.kpt kk); have HQ := Lib.hid (HQ.out.kpt kk); clear rd kk)
    | (go_at_call 62; (with_reducible refine (classes_run _).mono ?_); rintro z wh ⟨tv2, rfl, rd, kk⟩; have HCL := Lib.hid rd; have HWK := Lib.hid (HWK.out.kpt kk); have KP := Lib.hid (ktr KP.out kk); have HP := Lib.hid (HP.out.kpt kk); have HQ := Lib.hid (HQ.out.kpt kk); clear rd kk)
    | (go_at_call 63; (with_reducible refine (tenEach_run _).mono ?_); rintro z wi ⟨pv2, rfl, rd, kk⟩; have HTE := Lib.hid rd; have HWK := Lib.hid (HWK.out.kpt kk); have HCL := Lib.hid (HCL.out.kpt kk); have KP := Lib.hid (ktr KP.out kk); have HP := Lib.hid (HP.out.kpt kk); have HQ := Lib.hid (HQ.out.kpt kk); clear rd kk)
    | (go_at_call 15; (with_reducible refine (DY2.out _ _ _ _ HWK.out HCL.out HTE.out).mono ?_); rintro z wj ⟨dv3, rfl, kk⟩; have KP := Lib.hid (ktr KP.out kk); have HP := Lib.hid (HP.out.kpt kk); have HQ := Lib.hid (HQ.out.kpt kk); clear kk)
    | (go_at_call 21; (with_reducible refine (sameD_any _ _ _ _ (HP.out.kpt ((Kpt.refl _).alloc _)) (rp_one (Blk.made _ _ _))).mono ?_); rintro z wl ⟨rfl, kk⟩; have KP := Lib.hid (ktr (KP.out.alloc _) kk); have HQ := Lib.hid ((HQ.out.kpt ((Kpt.refl _).alloc _)).kpt kk); clear kk)
    | (go_at_call 65; (with_reducible refine (sameP_any _ _ _ _ (HQ.out.kpt ((Kpt.refl _).alloc _)) (rp_two (Blk.made _ _ _))).mono ?_); rintro z wm ⟨rfl, kk⟩; have KP := Lib.hid (ktr (KP.out.alloc _) kk); clear kk)
    | (go_at_call 19; (with_reducible refine (PR.out _).mono ?_); rintro z wn ⟨rfl, rfl⟩))
  go_ret
  exact ⟨rfl, KP.out⟩

end Go.Proofs.Ytbidafbllnhmnaa

-- LawPR
namespace Go.Proofs.Ytbidafbllnhmnaa
open Go.RowKit
set_option linter.unusedVariables false

theorem div_sup (x y c : Int) (hc : 0 < c) : x / c + y / c ≤ (x + y) / c := by
  refine Int.le_ediv_of_mul_le hc ?_
  have h1 := Int.mul_ediv_add_emod x c
  have h2 := Int.mul_ediv_add_emod y c
  have h3 := Int.emod_nonneg x (show c ≠ 0 by omega)
  have h4 := Int.emod_nonneg y (show c ≠ 0 by omega)
  rw [Int.add_mul, Int.mul_comm (x / c), Int.mul_comm (y / c)]; omega
theorem dly_up {u v p q r s : Int} (hu : 0 ≤ u) (huv : u ≤ v) (hp : 0 ≤ p) (hpq : p ≤ q) (hr : 0 ≤ r) (hrs : r ≤ s) : dlyV u p r ≤ dlyV v q s := by
  unfold dlyV
  have h1 : u * p ≤ v * q := Int.le_trans (Int.mul_le_mul_of_nonneg_right huv hp) (Int.mul_le_mul_of_nonneg_left hpq (by omega))
  have h2 : u * p / 10000 ≤ v * q / 10000 := Int.ediv_le_ediv (by decide) h1
  have h0 : 0 ≤ v * q / 10000 := Int.ediv_nonneg (Int.mul_nonneg (by omega) (by omega)) (by decide)
  exact Int.ediv_le_ediv (by decide) (Int.le_trans (Int.mul_le_mul_of_nonneg_right h2 hr) (Int.mul_le_mul_of_nonneg_left hrs h0))
theorem dly_sup {u m p r : Int} (hr : 0 ≤ r) : dlyV u p r + dlyV m p r ≤ dlyV (u + m) p r := by
  unfold dlyV
  refine Int.le_trans (div_sup _ _ 1000000 (by decide)) (Int.ediv_le_ediv (by decide) ?_)
  rw [← Int.add_mul, Int.add_mul u m p]
  exact Int.mul_le_mul_of_nonneg_right (div_sup _ _ 10000 (by decide)) hr
theorem dlyE_0 {u p r : Int} (h : dlyE u p r = 0) : dlyB u p r = true ∧ dlyQ u p r = dlyV u p r := by
  unfold dlyE at h
  split at h
  · rename_i hb; exact ⟨hb, by unfold dlyQ; rw [if_pos hb]⟩
  · cases h
theorem dlyE_3 {u p r : Int} (h : dlyE u p r ≠ 0) : dlyQ u p r = 0 ∧ dlyE u p r = 3 := by
  unfold dlyE at h ⊢
  unfold dlyQ
  split at h
  · exact absurd rfl h
  · rename_i hb; exact ⟨if_neg hb, if_neg hb⟩

/-- what a call of Daily answers -/
def DlyIs (u p r n e : Int) : Prop := ∀ w, Calls Try.prog 14 #[.int .i64 u, .int .i64 p, .int .i64 r] w fun x w' => x = .returned (.tuple #[.int .i64 n, .int .i64 e]) ∧ Kpt w w'
theorem DlyIs.run {u p r n e : Int} (h : DlyIs u p r n e) (w : World) : Calls Try.prog 14 #[.int .i64 u, .int .i64 p, .int .i64 r] w fun x w' => x = .returned (.tuple #[.int .i64 n, .int .i64 e]) ∧ Kpt w w' := h w
theorem dly_is (u p r : Int) : DlyIs u p r (dlyQ u p r) (dlyE u p r) := daily_any u p r

set_option maxRecDepth 100000 in
set_option maxHeartbeats 1000000 in
theorem rises_no (u p r m e : Int) (he : e ≠ 0) (D : DlyIs u p r 0 e) (w : World) : Calls Try.prog 4 #[.int .i64 u, .int .i64 p, .int .i64 r, .int .i64 m] w fun x w' => x = .returned (.bool true) ∧ Kpt w w' := by
  have D1 := Lib.hid D
  clear D
  have q1 : (e != 0) = true := bne_iff_ne.2 he
  have q2 : (e == 0) = false := beq_eq_false_iff_ne.2 he
  go_enter Try.func4, Try.ntmps4
  go_wp2_with (first
    | (go_at_call 14; (with_reducible refine (D1.out.run _).mono ?_); rintro x w1 ⟨rfl, k1⟩; have K1 := Lib.hid k1; clear k1)
    | (go_at_call 18; (with_reducible refine (penaltyBegun _).mono ?_); rintro x w2 ⟨rfl, k2⟩; have K2 := Lib.hid (ktr K1.out k2); clear k2))
  go_ret
  exact ⟨rfl, K2.out⟩
set_option maxRecDepth 100000 in
set_option maxHeartbeats 1000000 in
theorem rises_far (u p r m n : Int) (hm : m < 0 ∨ 1073741824 < m) (D : DlyIs u p r n 0) (w : World) : Calls Try.prog 4 #[.int .i64 u, .int .i64 p, .int .i64 r, .int .i64 m] w fun x w' => x = .returned (.bool true) ∧ Kpt w w' := by
  have D1 := Lib.hid D
  clear D
  rcases hm with hm | hm
  · have q1 : decide (m < 0) = true := decide_eq_true hm
    go_enter Try.func4, Try.ntmps4
    go_wp2_with (first
      | (go_at_call 14; (with_reducible refine (D1.out.run _).mono ?_); rintro x w1 ⟨rfl, k1⟩; have K1 := Lib.hid k1; clear k1)
      | (go_at_call 18; (with_reducible refine (penaltyBegun _).mono ?_); rintro x w2 ⟨rfl, k2⟩; have K2 := Lib.hid (ktr K1.out k2); clear k2))
    go_ret
    exact ⟨rfl, K2.out⟩
  · have q0 : decide (m < 0) = false := decide_eq_false (by omega)
    have q1 : decide (1073741824 < m) = true := decide_eq_true hm
    go_enter Try.func4, Try.ntmps4
    go_wp2_with (first
      | (go_at_call 14; (with_reducible refine (D1.out.run _).mono ?_); rintro x w1 ⟨rfl, k1⟩; have K1 := Lib.hid k1; clear k1)
      | (go_at_call 18; (with_reducible refine (penaltyBegun _).mono ?_); rintro x w2 ⟨rfl, k2⟩; have K2 := Lib.hid (ktr K1.out k2); clear k2))
    go_ret
    exact ⟨rfl, K2.out⟩

set_option maxRecDepth 100000 in
set_option maxHeartbeats 4000000 in
theorem rises_ok (u p r m n a f b g c h d : Int) (hu : 0 ≤ u ∧ u ≤ 1073741824) (hp : 0 ≤ p ∧ p ≤ 1099511627776) (hr : 0 ≤ r ∧ r ≤ 1000000) (hm : 0 ≤ m ∧ m ≤ 1073741824) (hn : 0 ≤ n) (hd : 0 ≤ d ∧ d ≤ 118059162071741130) (hn2 : n ≤ 118059162071741130)
    (hf : f = 0 → n ≤ a ∧ n + d ≤ a) (hg : g = 0 → n ≤ b) (hh : h = 0 → n ≤ c)
    (D1 : DlyIs u p r n 0) (D2 : DlyIs (u + m) p r a f) (D3 : DlyIs u (p + m) r b g) (D4 : DlyIs u p (r + m) c h) (D5 : DlyIs m p r d 0) (w : World) : Calls Try.prog 4 #[.int .i64 u, .int .i64 p, .int .i64 r, .int .i64 m] w fun x w' => x = .returned (.bool true) ∧ Kpt w w' := by
  have E1 := Lib.hid D1
  have E2 := Lib.hid D2
  have E3 := Lib.hid D3
  have E4 := Lib.hid D4
  have E5 := Lib.hid D5
  clear D1 D2 D3 D4 D5
  have m0 : decide (m < 0) = false := decide_eq_false (by omega)
  have m1 : decide (1073741824 < m) = false := decide_eq_false (by omega)
  have n0 : decide (0 ≤ n) = true := decide_eq_true hn
  by_cases zf : f = 0
  · have yf : (f != 0) = false := by simpa using zf
    have ya : decide (n ≤ a) = true := decide_eq_true (hf zf).1
    have yd : decide (n + d ≤ a) = true := decide_eq_true (hf zf).2
    clear zf hf
    by_cases zg : g = 0
    · have yg : (g != 0) = false := by simpa using zg
      have yag : decide (n ≤ b) = true := decide_eq_true (hg zg)
      clear zg hg
      by_cases zh : h = 0
      · have yh : (h != 0) = false := by simpa using zh
        have yah : decide (n ≤ c) = true := decide_eq_true (hh zh)
        clear zh hh
        go_enter Try.func4, Try.ntmps4
        go_wp2_with (first
          | (go_at_call 14; (with_reducible refine (E1.out.run _).mono ?_); rintro x w1 ⟨rfl, k1⟩; have K1 := Lib.hid k1; clear k1; clear E1)
          | (go_at_call 14; (with_reducible refine (E2.out.run _).mono ?_); rintro x w3 ⟨rfl, k1⟩; have K3 := Lib.hid (ktr K2.out k1); clear k1; clear E2)
          | (go_at_call 14; (with_reducible refine (E3.out.run _).mono ?_); rintro x w4 ⟨rfl, k1⟩; have K4 := Lib.hid (ktr K3.out k1); clear k1; clear E3)
          | (go_at_call 14; (with_reducible refine (E4.out.run _).mono ?_); rintro x w5 ⟨rfl, k1⟩; have K5 := Lib.hid (ktr K4.out k1); clear k1; clear E4)
          | (go_at_call 14; (with_reducible refine (E5.out.run _).mono ?_); rintro x w6 ⟨rfl, k1⟩; have K6 := Lib.hid (ktr K5.out k1); clear k1; clear E5)
          | (go_at_call 18; (with_reducible refine (penaltyBegun _).mono ?_); rintro x w2 ⟨rfl, k2⟩; have K2 := Lib.hid (ktr K1.out k2); clear k2))
        go_ret
        exact ⟨rfl, K6.out⟩
      · have yh : (h != 0) = true := by simpa using zh
        clear zh hh
        go_enter Try.func4, Try.ntmps4
        go_wp2_with (first
          | (go_at_call 14; (with_reducible refine (E1.out.run _).mono ?_); rintro x w1 ⟨rfl, k1⟩; have K1 := Lib.hid k1; clear k1; clear E1)
          | (go_at_call 14; (with_reducible refine (E2.out.run _).mono ?_); rintro x w3 ⟨rfl, k1⟩; have K3 := Lib.hid (ktr K2.out k1); clear k1; clear E2)
          | (go_at_call 14; (with_reducible refine (E3.out.run _).mono ?_); rintro x w4 ⟨rfl, k1⟩; have K4 := Lib.hid (ktr K3.out k1); clear k1; clear E3)
          | (go_at_call 14; (with_reducible refine (E4.out.run _).mono ?_); rintro x w5 ⟨rfl, k1⟩; have K5 := Lib.hid (ktr K4.out k1); clear k1; clear E4)
          | (go_at_call 14; (with_reducible refine (E5.out.run _).mono ?_); rintro x w6 ⟨rfl, k1⟩; have K6 := Lib.hid (ktr K5.out k1); clear k1; clear E5)
          | (go_at_call 18; (with_reducible refine (penaltyBegun _).mono ?_); rintro x w2 ⟨rfl, k2⟩; have K2 := Lib.hid (ktr K1.out k2); clear k2))
        go_ret
        exact ⟨rfl, K6.out⟩
    · have yg : (g != 0) = true := by simpa using zg
      clear zg hg
      by_cases zh : h = 0
      · have yh : (h != 0) = false := by simpa using zh
        have yah : decide (n ≤ c) = true := decide_eq_true (hh zh)
        clear zh hh
        go_enter Try.func4, Try.ntmps4
        go_wp2_with (first
          | (go_at_call 14; (with_reducible refine (E1.out.run _).mono ?_); rintro x w1 ⟨rfl, k1⟩; have K1 := Lib.hid k1; clear k1; clear E1)
          | (go_at_call 14; (with_reducible refine (E2.out.run _).mono ?_); rintro x w3 ⟨rfl, k1⟩; have K3 := Lib.hid (ktr K2.out k1); clear k1; clear E2)
          | (go_at_call 14; (with_reducible refine (E3.out.run _).mono ?_); rintro x w4 ⟨rfl, k1⟩; have K4 := Lib.hid (ktr K3.out k1); clear k1; clear E3)
          | (go_at_call 14; (with_reducible refine (E4.out.run _).mono ?_); rintro x w5 ⟨rfl, k1⟩; have K5 := Lib.hid (ktr K4.out k1); clear k1; clear E4)
          | (go_at_call 14; (with_reducible refine (E5.out.run _).mono ?_); rintro x w6 ⟨rfl, k1⟩; have K6 := Lib.hid (ktr K5.out k1); clear k1; clear E5)
          | (go_at_call 18; (with_reducible refine (penaltyBegun _).mono ?_); rintro x w2 ⟨rfl, k2⟩; have K2 := Lib.hid (ktr K1.out k2); clear k2))
        go_ret
        exact ⟨rfl, K6.out⟩
      · have yh : (h != 0) = true := by simpa using zh
        clear zh hh
        go_enter Try.func4, Try.ntmps4
        go_wp2_with (first
          | (go_at_call 14; (with_reducible refine (E1.out.run _).mono ?_); rintro x w1 ⟨rfl, k1⟩; have K1 := Lib.hid k1; clear k1; clear E1)
          | (go_at_call 14; (with_reducible refine (E2.out.run _).mono ?_); rintro x w3 ⟨rfl, k1⟩; have K3 := Lib.hid (ktr K2.out k1); clear k1; clear E2)
          | (go_at_call 14; (with_reducible refine (E3.out.run _).mono ?_); rintro x w4 ⟨rfl, k1⟩; have K4 := Lib.hid (ktr K3.out k1); clear k1; clear E3)
          | (go_at_call 14; (with_reducible refine (E4.out.run _).mono ?_); rintro x w5 ⟨rfl, k1⟩; have K5 := Lib.hid (ktr K4.out k1); clear k1; clear E4)
          | (go_at_call 14; (with_reducible refine (E5.out.run _).mono ?_); rintro x w6 ⟨rfl, k1⟩; have K6 := Lib.hid (ktr K5.out k1); clear k1; clear E5)
          | (go_at_call 18; (with_reducible refine (penaltyBegun _).mono ?_); rintro x w2 ⟨rfl, k2⟩; have K2 := Lib.hid (ktr K1.out k2); clear k2))
        go_ret
        exact ⟨rfl, K6.out⟩
  · have yf : (f != 0) = true := by simpa using zf
    clear zf hf
    by_cases zg : g = 0
    · have yg : (g != 0) = false := by simpa using zg
      have yag : decide (n ≤ b) = true := decide_eq_true (hg zg)
      clear zg hg
      by_cases zh : h = 0
      · have yh : (h != 0) = false := by simpa using zh
        have yah : decide (n ≤ c) = true := decide_eq_true (hh zh)
        clear zh hh
        go_enter Try.func4, Try.ntmps4
        go_wp2_with (first
          | (go_at_call 14; (with_reducible refine (E1.out.run _).mono ?_); rintro x w1 ⟨rfl, k1⟩; have K1 := Lib.hid k1; clear k1; clear E1)
          | (go_at_call 14; (with_reducible refine (E2.out.run _).mono ?_); rintro x w3 ⟨rfl, k1⟩; have K3 := Lib.hid (ktr K2.out k1); clear k1; clear E2)
          | (go_at_call 14; (with_reducible refine (E3.out.run _).mono ?_); rintro x w4 ⟨rfl, k1⟩; have K4 := Lib.hid (ktr K3.out k1); clear k1; clear E3)
          | (go_at_call 14; (with_reducible refine (E4.out.run _).mono ?_); rintro x w5 ⟨rfl, k1⟩; have K5 := Lib.hid (ktr K4.out k1); clear k1; clear E4)
          | (go_at_call 14; (with_reducible refine (E5.out.run _).mono ?_); rintro x w6 ⟨rfl, k1⟩; have K6 := Lib.hid (ktr K5.out k1); clear k1; clear E5)
          | (go_at_call 18; (with_reducible refine (penaltyBegun _).mono ?_); rintro x w2 ⟨rfl, k2⟩; have K2 := Lib.hid (ktr K1.out k2); clear k2))
        go_ret
        exact ⟨rfl, K6.out⟩
      · have yh : (h != 0) = true := by simpa using zh
        clear zh hh
        go_enter Try.func4, Try.ntmps4
        go_wp2_with (first
          | (go_at_call 14; (with_reducible refine (E1.out.run _).mono ?_); rintro x w1 ⟨rfl, k1⟩; have K1 := Lib.hid k1; clear k1; clear E1)
          | (go_at_call 14; (with_reducible refine (E2.out.run _).mono ?_); rintro x w3 ⟨rfl, k1⟩; have K3 := Lib.hid (ktr K2.out k1); clear k1; clear E2)
          | (go_at_call 14; (with_reducible refine (E3.out.run _).mono ?_); rintro x w4 ⟨rfl, k1⟩; have K4 := Lib.hid (ktr K3.out k1); clear k1; clear E3)
          | (go_at_call 14; (with_reducible refine (E4.out.run _).mono ?_); rintro x w5 ⟨rfl, k1⟩; have K5 := Lib.hid (ktr K4.out k1); clear k1; clear E4)
          | (go_at_call 14; (with_reducible refine (E5.out.run _).mono ?_); rintro x w6 ⟨rfl, k1⟩; have K6 := Lib.hid (ktr K5.out k1); clear k1; clear E5)
          | (go_at_call 18; (with_reducible refine (penaltyBegun _).mono ?_); rintro x w2 ⟨rfl, k2⟩; have K2 := Lib.hid (ktr K1.out k2); clear k2))
        go_ret
        exact ⟨rfl, K6.out⟩
    · have yg : (g != 0) = true := by simpa using zg
      clear zg hg
      by_cases zh : h = 0
      · have yh : (h != 0) = false := by simpa using zh
        have yah : decide (n ≤ c) = true := decide_eq_true (hh zh)
        clear zh hh
        go_enter Try.func4, Try.ntmps4
        go_wp2_with (first
          | (go_at_call 14; (with_reducible refine (E1.out.run _).mono ?_); rintro x w1 ⟨rfl, k1⟩; have K1 := Lib.hid k1; clear k1; clear E1)
          | (go_at_call 14; (with_reducible refine (E2.out.run _).mono ?_); rintro x w3 ⟨rfl, k1⟩; have K3 := Lib.hid (ktr K2.out k1); clear k1; clear E2)
          | (go_at_call 14; (with_reducible refine (E3.out.run _).mono ?_); rintro x w4 ⟨rfl, k1⟩; have K4 := Lib.hid (ktr K3.out k1); clear k1; clear E3)
          | (go_at_call 14; (with_reducible refine (E4.out.run _).mono ?_); rintro x w5 ⟨rfl, k1⟩; have K5 := Lib.hid (ktr K4.out k1); clear k1; clear E4)
          | (go_at_call 14; (with_reducible refine (E5.out.run _).mono ?_); rintro x w6 ⟨rfl, k1⟩; have K6 := Lib.hid (ktr K5.out k1); clear k1; clear E5)
          | (go_at_call 18; (with_reducible refine (penaltyBegun _).mono ?_); rintro x w2 ⟨rfl, k2⟩; have K2 := Lib.hid (ktr K1.out k2); clear k2))
        go_ret
        exact ⟨rfl, K6.out⟩
      · have yh : (h != 0) = true := by simpa using zh
        clear zh hh
        go_enter Try.func4, Try.ntmps4
        go_wp2_with (first
          | (go_at_call 14; (with_reducible refine (E1.out.run _).mono ?_); rintro x w1 ⟨rfl, k1⟩; have K1 := Lib.hid k1; clear k1; clear E1)
          | (go_at_call 14; (with_reducible refine (E2.out.run _).mono ?_); rintro x w3 ⟨rfl, k1⟩; have K3 := Lib.hid (ktr K2.out k1); clear k1; clear E2)
          | (go_at_call 14; (with_reducible refine (E3.out.run _).mono ?_); rintro x w4 ⟨rfl, k1⟩; have K4 := Lib.hid (ktr K3.out k1); clear k1; clear E3)
          | (go_at_call 14; (with_reducible refine (E4.out.run _).mono ?_); rintro x w5 ⟨rfl, k1⟩; have K5 := Lib.hid (ktr K4.out k1); clear k1; clear E4)
          | (go_at_call 14; (with_reducible refine (E5.out.run _).mono ?_); rintro x w6 ⟨rfl, k1⟩; have K6 := Lib.hid (ktr K5.out k1); clear k1; clear E5)
          | (go_at_call 18; (with_reducible refine (penaltyBegun _).mono ?_); rintro x w2 ⟨rfl, k2⟩; have K2 := Lib.hid (ktr K1.out k2); clear k2))
        go_ret
        exact ⟨rfl, K6.out⟩

theorem rises_plain (u p r m : Int) (w : World) : Calls Try.prog 4 #[.int .i64 u, .int .i64 p, .int .i64 r, .int .i64 m] w fun x w' => x = .returned (.bool true) ∧ Kpt w w' := by
  by_cases he : dlyE u p r = 0
  · have D1 := dly_is u p r
    obtain ⟨hb, hq⟩ := dlyE_0 he
    have hb' := dly_t hb
    rw [he] at D1
    by_cases hm : 0 ≤ m ∧ m ≤ 1073741824
    · have bn := dly_bd hb'.1 hb'.2.1 hb'.2.2
      have hb5 : dlyB m p r = true := dly_mk hm hb'.2.1 hb'.2.2
      have D5 := dly_is m p r
      have e5 : dlyE m p r = 0 := by unfold dlyE; rw [if_pos hb5]
      have q5 := (dlyE_0 e5).2
      have b5 := dly_bd hm hb'.2.1 hb'.2.2
      rw [e5, q5] at D5
      rw [hq] at D1
      refine rises_ok u p r m (dlyV u p r) (dlyQ (u + m) p r) (dlyE (u + m) p r) (dlyQ u (p + m) r) (dlyE u (p + m) r) (dlyQ u p (r + m)) (dlyE u p (r + m)) (dlyV m p r) hb'.1 hb'.2.2 hb'.2.1 hm bn.1 b5 bn.2 (fun h => ?_) (fun h => ?_) (fun h => ?_) D1 (dly_is _ _ _) (dly_is _ _ _) (dly_is _ _ _) D5 w
      · rw [(dlyE_0 h).2]
        exact ⟨dly_up hb'.1.1 (by omega) hb'.2.2.1 (Int.le_refl _) hb'.2.1.1 (Int.le_refl _), dly_sup hb'.2.1.1⟩
      · rw [(dlyE_0 h).2]
        exact dly_up hb'.1.1 (Int.le_refl _) hb'.2.2.1 (by omega) hb'.2.1.1 (Int.le_refl _)
      · rw [(dlyE_0 h).2]
        exact dly_up hb'.1.1 (Int.le_refl _) hb'.2.2.1 (Int.le_refl _) hb'.2.1.1 (by omega)
    · exact rises_far u p r m _ (by omega) D1 w
  · have D1 := dly_is u p r
    rw [(dlyE_3 he).1] at D1
    exact rises_no u p r m _ he D1 w

end Go.Proofs.Ytbidafbllnhmnaa
