/-
  Merged, what is used of: FlStep, LawCA, CycU, BookL, BookM, BookN, BookP, CycV, RefFail, LawCO, RefFail2, RefFail3, BookO, BookQ, Between, SumOf, SumOfW, BookR, RefBook, RefBook2, LawBook, RefBook3, CycW, CycX, CycY, LawCZ, LawCZp.
-/
import Derived.Test.YthaahebggboliaaGreatMr
import Derived.Test.YthaahebggboliaaGreatMcb
import Derived.Deep.RegionHeld3
import Derived.Deep.AppendLies
import Derived.Test.YthaahebggboliaaGreatMcr
import Derived.Test.YthaahebggboliaaGreatMsw
import Derived.Test.YthaahebggboliaaGreatMcg
import Derived.Test.YthaahebggboliaaGreatMa1
import Derived.Test.YthaahebggboliaaGreatMb5
import Derived.Test.YthaahebggboliaaGreatMcl
import Derived.Test.YthaahebggboliaaGreatMf1
import Derived.Test.YthaahebggboliaaGreatMp3
import Derived.Test.YthaahebggboliaaGreatMf2
import Derived.Deep.QuietTactic
import Derived.BigQuiet
import Derived.Test.YthaahebggboliaaGreatMg
import Derived.Test.YthaahebggboliaaGreatMd
import Derived.IntWalk
import Derived.Test.YthaahebggboliaaGreatOwn
import Derived.Test.YthaahebggboliaaGreatKept
import Derived.Test.YthaahebggboliaaGreatMb1
import Derived.Deep.MidRow
import Derived.Lib.SmallJoins
import Derived.Deep.Cut
import Derived.Deep.CutRange
namespace Go.Proofs.YthaahebggboliaaGreat
open Go.RowKit Go.Lib
set_option linter.unusedVariables false
theorem newsF {w : World} {g off : Nat} {gs : List (List Int)} (h : ∀ q, q < gs.length → FlAt w g (off + q * 10) (gs.getD q [])) : ∀ j u, (flatN 10 gs)[j]? = some u → w.cell? ((⟨g, off, none⟩ : Addr).add j) = some u := by
  intro j u hu
  have hj : j < gs.length * 10 := by
    have := (List.getElem?_eq_some_iff.1 hu).1
    rwa [flatN_len] at this
  obtain ⟨q, r, hr, rfl⟩ : ∃ q r, r < 10 ∧ j = q * 10 + r := ⟨j / 10, j % 10, by omega, by omega⟩
  have hq : q < gs.length := by omega
  have ea : (⟨g, off, none⟩ : Addr).add (q * 10 + r) = ⟨g, off + q * 10 + r, none⟩ := by simp [Addr.add, Nat.add_assoc]
  rw [ea]
  rw [flatN_at gs q r hq hr] at hu
  rw [← hu]
  exact h q hq r hr
/-- append of fails that are read to a slice of the call's own that is not nil -/
theorem step_appendFs {ops : Array Oper} {o : Oper} {a : Act} {w : World} {K : Act → World → Prop} {Q : Exit → Act → World → Prop} {E : Prop} (hgd : o.guard = none) (s x : Operand)
    (ho : o.op = .call { callee := .builtin .append, args := #[s, x], argTypes := #[28, 28] })
    (base B n c : Nat) (u : Value) (fs gs : List (List Int)) (hs : a.eval s = .slice (some ⟨B, 0, none⟩) n c) (hown : OwnsN 10 42 w base (.slice (some ⟨B, 0, none⟩) n c) fs) (hx : a.eval x = u) (hr : ReadsF w u gs) (hn : NilC u)
    (hlen : fs.length + gs.length ≤ 100000) (hbase : base ≤ w.heap.size) (m : Nat) (L : List (List Int)) (hm : m = fs.length + gs.length) (hL : L = fs ++ gs)
    (h : ∀ g cap w', OwnsN 10 42 w' base (.slice (some ⟨g, 0, none⟩) m cap) L → w.grownBy w' (some B) → base ≤ g → K (a.put o.dst (.slice (some ⟨g, 0, none⟩) m cap)) w') :
    if Region.wanted o (yielded ops a.tmps) = true then Oper.wp Tryz.prog o a w K Q else E := by
  have hw : Region.wanted o (yielded ops a.tmps) = true := by simp [Region.wanted, hgd]
  rw [if_pos hw]
  obtain ⟨i0, hi, hz0, hz1, hz2⟩ := info_parts Tryz.infoFail
  subst hm; subst hL
  obtain ⟨ad, cap', rfl, hmm, hb, hc⟩ := hr
  have fin : ∀ v' w', World.ownsRow w' base 42 10 v' (fs.length + gs.length) (flatN 10 fs ++ flatN 10 gs) → w.grownBy w' (some B) → ¬ v' = .slice none 0 0 → K (a.put o.dst v') w' := fun v' w' h1 h2 h3 => by
    have h4 : OwnsN 10 42 w' base v' (fs ++ gs) := by unfold OwnsN; rw [List.length_append, flatN_append]; exact h1
    rcases h4.2 with ⟨e, -⟩ | ⟨g, cap, cur, e, -⟩
    · exact absurd e h3
    · subst e
      have hg := h4.ge g (by simp [Value.ownBlock])
      rw [List.length_append] at h4 ⊢
      exact h g cap w' h4 h2 hg
  cases ad with
  | none =>
    obtain rfl := hn _ _ rfl
    have h0 : gs = [] := by
      cases gs with
      | nil => rfl
      | cons q l => obtain ⟨b, off, e, _⟩ := hc 0 (by simp); cases e
    subst h0
    have hrun := run_append_owned_none (P := Tryz.prog) (w := w) base 28 o.type 42 i0 10 Tryz.underlying28 hi _ _ _ hown
    unfold Oper.wp
    simp [execOp, ho, resolve, invoke, builtin, hs, hx, hrun, Result.andThen]
    refine fin _ w (by simpa [flatN] using (show World.ownsRow w base _ 10 _ fs.length (flatN 10 fs) from hown)) ⟨rfl, rfl, rfl, Nat.le_refl _, fun _ _ _ => rfl⟩ (fun e => by injection e with e; cases e)
  | some ad =>
    rcases Nat.eq_zero_or_pos gs.length with h0 | h0
    · obtain rfl : gs = [] := List.eq_nil_of_length_eq_zero h0
      refine wp_append_own _ s x 28 ho base 42 i0 _ 10 80 Tryz.underlying28 hi hz0 hz1 hz2 rfl (by decide) _ fs.length (flatN 10 fs) hs hown ad 0 cap' [] hx rfl (fun j u hu => by simp at hu) (fun u hu => by cases hu) (by unfold maxLen; simp at hlen; omega) (by simp at hlen; omega) hbase ?_
      intro v' w' h1 h2 h3
      exact fin v' w' (by simpa [flatN] using h1) h2 (fun e => by have := (h3.1 e).1; injection this with e; cases e)
    · obtain ⟨g, off, e, -⟩ := hc 0 h0
      have e := Option.some.inj e
      subst e
      refine wp_append_own _ s x 28 ho base 42 i0 _ 10 80 Tryz.underlying28 hi hz0 hz1 hz2 rfl (by decide) _ fs.length (flatN 10 fs) hs hown ⟨g, off, none⟩ gs.length cap' (flatN 10 gs) hx (flatN_len 10 gs) (newsF (fun q hq => ?_)) (flatN_one 10 gs) (by unfold maxLen; omega) (by omega) hbase ?_
      · obtain ⟨g', off', e, h1⟩ := hc q hq
        have e' := Option.some.inj e
        injection e' with e1 e2 _
        subst e1 e2
        exact h1
      · intro v' w' h1 h2 h3
        exact fin v' w' h1 h2 (fun e => by have := (h3.1 e).1; injection this with e; cases e)
theorem rn_some {p : Addr} {n c : Nat} : NilC (.slice (some p) n c) := fun m cap e => by injection e with e; cases e
theorem kp_grown {w1 W wa : World} {B : Nat} (hW : Kpt w1 W) (hB : w1.heap.size ≤ B) (h : W.grownBy wa (some B)) : Kpt w1 wa :=
  Below.grown hW h hW.size (fun q e => by simp at e; omega)
theorem blk_grown2 {W wa : World} {B g : Nat} {cs : Array Value} {T : TypeId} (h : Blk W g cs T) (hne : g ≠ B) (hg : W.grownBy wa (some B)) : Blk wa g cs T := h.block (hg.block g h.lt (by simp; omega))
end Go.Proofs.YthaahebggboliaaGreat
namespace Go.Proofs.YthaahebggboliaaGreat
open Go.RowKit Go.Sort Go.Lib
set_option linter.unusedVariables false
theorem inp_nil : InP [] := fun q hq => absurd hq (by simp)
theorem ck60 {fs : List (List Int)} (h : checksE fs = 0) : fs.length ≤ 60 := by
  unfold checksE at h
  split at h
  · cases h
  · omega
theorem flB_ten {p0 p1 p2 p3 p4 p5 p6 p7 p8 p9 : Int} (h : (-9223372036854775808 ≤ p0 ∧ p0 ≤ 9223372036854775807) ∧ (-9223372036854775808 ≤ p1 ∧ p1 ≤ 9223372036854775807) ∧ (-9223372036854775808 ≤ p2 ∧ p2 ≤ 9223372036854775807) ∧ (-9223372036854775808 ≤ p3 ∧ p3 ≤ 9223372036854775807) ∧ (-9223372036854775808 ≤ p4 ∧ p4 ≤ 9223372036854775807) ∧ (-9223372036854775808 ≤ p5 ∧ p5 ≤ 9223372036854775807) ∧ (-9223372036854775808 ≤ p6 ∧ p6 ≤ 9223372036854775807) ∧ (-9223372036854775808 ≤ p7 ∧ p7 ≤ 9223372036854775807) ∧ (-9223372036854775808 ≤ p8 ∧ p8 ≤ 9223372036854775807) ∧ (-9223372036854775808 ≤ p9 ∧ p9 ≤ 9223372036854775807)) : FlB [p0, p1, p2, p3, p4, p5, p6, p7, p8, p9] := by
  obtain ⟨h0, h1, h2, h3, h4, h5, h6, h7, h8, h9⟩ := h
  intro j hj
  rcases (show j = 0 ∨ j = 1 ∨ j = 2 ∨ j = 3 ∨ j = 4 ∨ j = 5 ∨ j = 6 ∨ j = 7 ∨ j = 8 ∨ j = 9 by omega) with rfl | rfl | rfl | rfl | rfl | rfl | rfl | rfl | rfl | rfl
  · exact h0
  · exact h1
  · exact h2
  · exact h3
  · exact h4
  · exact h5
  · exact h6
  · exact h7
  · exact h8
  · exact h9
end Go.Proofs.YthaahebggboliaaGreat
namespace Go.Proofs.YthaahebggboliaaGreat
open Go.RowKit
set_option linter.unusedVariables false
end Go.Proofs.YthaahebggboliaaGreat
namespace Go.Proofs.YthaahebggboliaaGreat
open Go.RowKit Go.Sort Go.Lib
set_option linter.unusedVariables false
theorem flatP_set (ps : List (Int × Int × Int)) (k : Nat) (hk : k < ps.length) (x : Int) : (flatP ps).set (k * 3 + 2) (.int .i64 x) = flatP (ps.set k ((ps.getD k default).1, (ps.getD k default).2.1, x)) := by
  induction ps generalizing k with
  | nil => simp at hk
  | cons p l ih =>
    have e : ∀ q m, flatP (q :: m) = .int .i64 q.1 :: .int .i64 q.2.1 :: .int .i64 q.2.2 :: flatP m := fun _ _ => rfl
    cases k with
    | zero => rw [e]; rfl
    | succ k =>
      have := ih k (by simpa using hk)
      rw [e, show (k + 1) * 3 + 2 = (k * 3 + 2) + 1 + 1 + 1 by omega]
      simp only [List.set_cons_succ, this, List.getD_cons_succ]
      rw [e]
theorem OwnsP.put {w : World} {base blk n cap : Nat} {ps : List (Int × Int × Int)} (h : OwnsP w base (.slice (some ⟨blk, 0, none⟩) n cap) ps) (k : Nat) (hk : k < ps.length) (x : Int) :
    OwnsP (w.setCell ⟨blk, k * 3 + 2, none⟩ (.int .i64 x)) base (.slice (some ⟨blk, 0, none⟩) n cap) (ps.set k ((ps.getD k default).1, (ps.getD k default).2.1, x)) := by
  rcases h.2 with ⟨e, _⟩ | ⟨g, cap', cur, e, hg, hh, hc, hm, hs, ht⟩
  · cases e
  · injection e with e1 e2 e3
    injection e1 with e1
    injection e1 with e1 _ _
    subst e1; subst e3; subst e2
    refine ⟨by rw [flatP_len], .inr ⟨blk, cap, cur.setIfInBounds (k * 3 + 2) (.int .i64 x), by rw [List.length_set], hg, ?_, by rw [List.length_set]; exact hc, hm, by simpa using hs, ?_⟩⟩
    · simp [World.setCell, Array.getElem?_modify, hh]
    · rw [List.length_set, Array.toList_setIfInBounds, List.take_set, ht, flatP_set ps k hk]
end Go.Proofs.YthaahebggboliaaGreat
namespace Go.Proofs.YthaahebggboliaaGreat
open Go.RowKit
set_option linter.unusedVariables false
end Go.Proofs.YthaahebggboliaaGreat
namespace Go.Proofs.YthaahebggboliaaGreat
open Go.RowKit
set_option linter.unusedVariables false
end Go.Proofs.YthaahebggboliaaGreat
namespace Go.Proofs.YthaahebggboliaaGreat
open Go.RowKit
set_option linter.unusedVariables false
theorem post_ext3 {p q : Int × Int × Int} (h1 : p.1 = q.1) (h2 : p.2.1 = q.2.1) (h3 : p.2.2 = q.2.2) : p = q := by
  obtain ⟨a, b, c⟩ := p; obtain ⟨d, e, f⟩ := q; simp_all
/-- the line of a place in a strict list is all that the place has -/
theorem sumAt_mem {b : Int} {R : List (Int × Int × Int)} (h : Strict b R) {p : Int × Int × Int} (hp : p ∈ R) : sumAt R p.1 p.2.1 = p.2.2 := by
  induction R generalizing b with
  | nil => simp at hp
  | cons q l ih =>
    unfold sumAt
    rcases List.mem_cons.1 hp with rfl | hp
    · rw [if_pos ⟨rfl, rfl⟩]
      have : sumAt l p.1 p.2.1 = 0 := sumAt_none fun r hr e => by
        have := strict_lo h.2.2 r hr
        unfold plc at this
        rw [e.1, e.2] at this
        omega
      omega
    · rw [ih h.2.2 hp, if_neg, Int.zero_add]
      intro e
      have := strict_lo h.2.2 p hp
      unfold plc at this
      rw [← e.1, ← e.2] at this
      omega
/-- a list is a book of postings: what is to be looked at -/
theorem isBook_mk {R T : List (Int × Int × Int)} (hs : Strict (-1) R) (h1 : ∀ p ∈ R, p.2.2 = sumAt T p.1 p.2.1) (h2 : ∀ q ∈ T, sumAt T q.1 q.2.1 ≠ 0 → ∃ r ∈ R, r.1 = q.1 ∧ r.2.1 = q.2.1) : IsBook R T := by
  refine ⟨hs, fun p => ⟨fun hp => ⟨strict_pt hs p hp, h1 p hp⟩, fun ⟨hb, hp⟩ => ?_⟩⟩
  have hz := (pt_t hb).2.2.2.2.1
  have : ∃ q ∈ T, q.1 = p.1 ∧ q.2.1 = p.2.1 := Classical.byContradiction fun hn => by
    have := sumAt_none (l := T) (a := p.1) (u := p.2.1) fun q hq e => hn ⟨q, hq, e⟩
    omega
  obtain ⟨q, hq, e1, e2⟩ := this
  obtain ⟨r, hr, f1, f2⟩ := h2 q hq (by rw [e1, e2]; omega)
  have := h1 r hr
  rw [f1, f2, e1, e2] at this
  have e : r = p := post_ext3 (f1.trans e1) (f2.trans e2) (by omega)
  exact e ▸ hr
/-- each place has in a book what was posted to it -/
theorem sumAt_book {R T : List (Int × Int × Int)} (h : IsBook R T) (hT : ∀ p ∈ T, ptB p = true) (ha : ∀ a u, amtB (sumAt T a u) = true) (a u : Int) : sumAt R a u = sumAt T a u := by
  by_cases hz : sumAt T a u = 0
  · rw [hz]
    refine sumAt_none fun q hq e => ?_
    have := (h.mem q).1 hq
    rw [e.1, e.2, hz] at this
    exact (pt_t this.1).2.2.2.2.1 this.2
  · have hq : ∃ q ∈ T, q.1 = a ∧ q.2.1 = u := Classical.byContradiction fun hn => hz (sumAt_none fun q hq e => hn ⟨q, hq, e⟩)
    obtain ⟨q, hq, rfl, rfl⟩ := hq
    have hb := pt_t (hT q hq)
    have hm : (q.1, q.2.1, sumAt T q.1 q.2.1) ∈ R := (h.mem _).2 ⟨pt_mk ⟨hb.1, hb.2.1, hb.2.2.1, hb.2.2.2.1, hz, amt_t (ha _ _)⟩, rfl⟩
    exact sumAt_mem h.strict hm
/-- the amounts of a unit, account by account -/
def accS (T : List (Int × Int × Int)) (u : Nat) : Nat → Int
  | 0 => 0
  | n + 1 => accS T u n + sumAt T (n : Int) (u : Int)
theorem accS_cons (p : Int × Int × Int) (T : List (Int × Int × Int)) (u n : Nat) : accS (p :: T) u n = (if p.2.1 = (u : Int) ∧ 0 ≤ p.1 ∧ p.1 < (n : Int) then p.2.2 else 0) + accS T u n := by
  induction n with
  | zero => simp only [accS]; rw [if_neg (by omega)]; omega
  | succ n ih =>
    simp only [accS, ih, sumAt]
    by_cases h1 : p.1 = (n : Int) ∧ p.2.1 = (u : Int)
    · rw [if_pos h1, if_neg (by omega), if_pos (by omega)]; omega
    · rw [if_neg h1]
      by_cases h2 : p.2.1 = (u : Int) ∧ 0 ≤ p.1 ∧ p.1 < (n : Int)
      · rw [if_pos h2, if_pos (by omega)]; omega
      · rw [if_neg h2, if_neg (by omega)]; omega
theorem accS_unit {T : List (Int × Int × Int)} (h : ∀ p ∈ T, ptB p = true) (u : Nat) : accS T u 101 = unitS T u := by
  induction T with
  | nil =>
    have : ∀ n, accS [] u n = 0 := fun n => by induction n with
      | zero => rfl
      | succ n ih => simp [accS, ih, sumAt]
    rw [this]; rfl
  | cons p l ih =>
    have hb := pt_t (h p (by simp))
    rw [accS_cons, ih fun q hq => h q (by simp [hq]), unitS]
    by_cases e : p.2.1 = (u : Int)
    · rw [if_pos (by omega), if_pos e]
    · rw [if_neg (by omega), if_neg e]
theorem accS_congr {S T : List (Int × Int × Int)} (h : ∀ a u, sumAt S a u = sumAt T a u) (u n : Nat) : accS S u n = accS T u n := by
  induction n with
  | zero => rfl
  | succ n ih => simp only [accS, ih, h]
theorem unitS_congr {S T : List (Int × Int × Int)} (hS : ∀ p ∈ S, ptB p = true) (hT : ∀ p ∈ T, ptB p = true) (h : ∀ a u, sumAt S a u = sumAt T a u) (u : Nat) : unitS S u = unitS T u := by
  rw [← accS_unit hS, ← accS_unit hT, accS_congr h]
theorem evn_append {S T : List (Int × Int × Int)} (hS : evnB S = true) (hT : evnB T = true) : evnB (S ++ T) = true := evn_mk fun u hu => by
  rw [unitS_append, evn_t hS u hu, evn_t hT u hu]; rfl
/-- all that is known behind a post that went -/
structure Posted (b l R : List (Int × Int × Int)) : Prop where
  lin : linE b = 0
  chk : chkE l = 0
  amt : ∀ a u, amtB (sumAt (b ++ l) a u) = true
  book : IsBook R (b ++ l)
  few : R.length ≤ 400
theorem pts_both {b l : List (Int × Int × Int)} (h0 : linE b = 0) (h1 : chkE l = 0) : ∀ p ∈ b ++ l, ptB p = true := fun p hp => by
  rcases List.mem_append.1 hp with h | h
  · exact strict_pt (lin_0 h0).2.1 p h
  · exact (chk_0 h1).2.2.1 p h
theorem Posted.sum {b l R : List (Int × Int × Int)} (h : Posted b l R) (a u : Int) : sumAt R a u = sumAt b a u + sumAt l a u := by
  rw [sumAt_book h.book (pts_both h.lin h.chk) h.amt, sumAt_append]
theorem Posted.lines {b l R : List (Int × Int × Int)} (h : Posted b l R) : linE R = 0 := by
  refine lin_mk h.few h.book.strict (evn_mk fun u hu => ?_)
  rw [unitS_congr (strict_pt h.book.strict) (pts_both h.lin h.chk) (sumAt_book h.book (pts_both h.lin h.chk) h.amt)]
  exact evn_t (evn_append (lin_0 h.lin).2.2 (chk_0 h.chk).2.2.2) u hu
/-- in whichever order -/
theorem Posted.order {b l m x y p q : List (Int × Int × Int)} (hx : Posted b l x) (hy : Posted b m y) (hp : Posted x m p) (hq : Posted y l q) : p = q :=
  book_ext hp.book hq.book fun a u => by rw [sumAt_append, sumAt_append, hx.sum, hy.sum]; omega
def B0 : List (Int × Int × Int) := [(1, 0, -8), (2, 0, 5), (3, 0, 3)]
end Go.Proofs.YthaahebggboliaaGreat
namespace Go.Proofs.YthaahebggboliaaGreat
open Go.RowKit
set_option linter.unusedVariables false
theorem pst_posted {b l : List (Int × Int × Int)} (h : pstE b l = 0) : Posted b l (pstR b l) := by
  obtain ⟨h1, h2, h3, h4, h5⟩ := pst_0 h
  rw [h5]
  exact ⟨h1, h2, h3, mrg_book h3, h4⟩
end Go.Proofs.YthaahebggboliaaGreat
namespace Go.Proofs.YthaahebggboliaaGreat
open Go.RowKit
set_option linter.unusedVariables false
theorem rbt_any (n l h : Int) (B : Bool) (hB : btw l h n = B) (w : World) :
    Calls Tryz.prog 54 #[.int .i64 n, .int .i64 l, .int .i64 h] w fun e w' => e = .returned (.bool B) ∧ w = w' := by
  cases B with
  | true =>
    obtain ⟨h1, h2⟩ := btw_t hB
    clear hB
    go_enter Tryz.func54, Tryz.ntmps54
    go_wp2
    go_ret
    exact ⟨rfl, rfl⟩
  | false =>
    have hB := btw_f hB
    by_cases h2 : n < l
    · clear hB
      go_enter Tryz.func54, Tryz.ntmps54
      go_wp2
      go_ret
      exact ⟨rfl, rfl⟩
    · have h3 : decide (n ≤ h) = false := decide_eq_false (by omega)
      have h4 : decide (l ≤ n) = true := decide_eq_true (by omega)
      have h5 : ¬ n ≤ h := by omega
      have h6 : l ≤ n := by omega
      clear hB h2
      go_enter Tryz.func54, Tryz.ntmps54
      go_wp2
      go_ret
      exact ⟨rfl, rfl⟩
theorem rfo_run (i f t c p d u x b y : Int) (w : World) (hu : 1 ≤ u ∧ u ≤ 1073741824) (hx : 0 ≤ x ∧ x ≤ u) (hb : 0 ≤ b ∧ b ≤ u) (hy : 0 ≤ y ∧ y ≤ u) :
    Calls Tryz.prog 35 #[.agg #[.int .i64 i, .int .i64 f, .int .i64 t, .int .i64 c, .int .i64 p, .int .i64 d, .int .i64 u, .int .i64 x, .int .i64 b, .int .i64 y]] w fun e w' => e = .returned (.int .i64 (u - x - b - y)) ∧ Kpt w w' := by
  go_enter Tryz.func35, Tryz.ntmps35
  go_wp2
  go_ret
  exact ⟨ret_int (by omega), (Kpt.refl w).alloc _⟩
set_option maxHeartbeats 2000000 in
theorem rfc_0 (i f t c p d u x b y : Int) (Y0 : btw 1 1099511627776 i = false) (w : World) :
    Calls Tryz.prog 98 #[.agg #[.int .i64 i, .int .i64 f, .int .i64 t, .int .i64 c, .int .i64 p, .int .i64 d, .int .i64 u, .int .i64 x, .int .i64 b, .int .i64 y]] w fun e w' => e = .returned (.int .i64 3) ∧ Kpt w w' := by
  go_enter Tryz.func98, Tryz.ntmps98
  go_wp2_with (first
    | (go_at_call 54; (with_reducible refine (rbt_any _ _ _ _ Y0 _).mono ?_); rintro e w9 ⟨rfl, rfl⟩))
  go_ret
  exact ⟨rfl, ((Kpt.refl w).alloc _)⟩
set_option maxHeartbeats 2000000 in
theorem rfc_1 (i f t c p d u x b y : Int) (Y0 : btw 1 1099511627776 i = true) (Y1 : btw 0 30 f = false) (w : World) :
    Calls Tryz.prog 98 #[.agg #[.int .i64 i, .int .i64 f, .int .i64 t, .int .i64 c, .int .i64 p, .int .i64 d, .int .i64 u, .int .i64 x, .int .i64 b, .int .i64 y]] w fun e w' => e = .returned (.int .i64 3) ∧ Kpt w w' := by
  go_enter Tryz.func98, Tryz.ntmps98
  go_wp2_with (first
    | (go_at_call 54; (with_reducible refine (rbt_any _ _ _ _ Y0 _).mono ?_); rintro e w9 ⟨rfl, rfl⟩)
    | (go_at_call 54; (with_reducible refine (rbt_any _ _ _ _ Y1 _).mono ?_); rintro e w9 ⟨rfl, rfl⟩))
  go_ret
  exact ⟨rfl, ((Kpt.refl w).alloc _)⟩
set_option maxHeartbeats 2000000 in
theorem rfc_2 (i f t c p d u x b y : Int) (Y0 : btw 1 1099511627776 i = true) (Y1 : btw 0 30 f = true) (Y2 : btw 0 30 t = false) (w : World) :
    Calls Tryz.prog 98 #[.agg #[.int .i64 i, .int .i64 f, .int .i64 t, .int .i64 c, .int .i64 p, .int .i64 d, .int .i64 u, .int .i64 x, .int .i64 b, .int .i64 y]] w fun e w' => e = .returned (.int .i64 3) ∧ Kpt w w' := by
  go_enter Tryz.func98, Tryz.ntmps98
  go_wp2_with (first
    | (go_at_call 54; (with_reducible refine (rbt_any _ _ _ _ Y0 _).mono ?_); rintro e w9 ⟨rfl, rfl⟩)
    | (go_at_call 54; (with_reducible refine (rbt_any _ _ _ _ Y1 _).mono ?_); rintro e w9 ⟨rfl, rfl⟩)
    | (go_at_call 54; (with_reducible refine (rbt_any _ _ _ _ Y2 _).mono ?_); rintro e w9 ⟨rfl, rfl⟩))
  go_ret
  exact ⟨rfl, ((Kpt.refl w).alloc _)⟩
set_option maxHeartbeats 2000000 in
theorem rfc_3 (i f t c p d u x b y : Int) (Y0 : btw 1 1099511627776 i = true) (Y1 : btw 0 30 f = true) (Y2 : btw 0 30 t = true) (Y3 : btw 0 5 c = false) (w : World) :
    Calls Tryz.prog 98 #[.agg #[.int .i64 i, .int .i64 f, .int .i64 t, .int .i64 c, .int .i64 p, .int .i64 d, .int .i64 u, .int .i64 x, .int .i64 b, .int .i64 y]] w fun e w' => e = .returned (.int .i64 3) ∧ Kpt w w' := by
  go_enter Tryz.func98, Tryz.ntmps98
  go_wp2_with (first
    | (go_at_call 54; (with_reducible refine (rbt_any _ _ _ _ Y0 _).mono ?_); rintro e w9 ⟨rfl, rfl⟩)
    | (go_at_call 54; (with_reducible refine (rbt_any _ _ _ _ Y1 _).mono ?_); rintro e w9 ⟨rfl, rfl⟩)
    | (go_at_call 54; (with_reducible refine (rbt_any _ _ _ _ Y2 _).mono ?_); rintro e w9 ⟨rfl, rfl⟩)
    | (go_at_call 54; (with_reducible refine (rbt_any _ _ _ _ Y3 _).mono ?_); rintro e w9 ⟨rfl, rfl⟩))
  go_ret
  exact ⟨rfl, ((Kpt.refl w).alloc _)⟩
set_option maxHeartbeats 2000000 in
theorem rfc_4 (i f t c p d u x b y : Int) (Y0 : btw 1 1099511627776 i = true) (Y1 : btw 0 30 f = true) (Y2 : btw 0 30 t = true) (Y3 : btw 0 5 c = true) (Y4 : btw 1 20 p = false) (w : World) :
    Calls Tryz.prog 98 #[.agg #[.int .i64 i, .int .i64 f, .int .i64 t, .int .i64 c, .int .i64 p, .int .i64 d, .int .i64 u, .int .i64 x, .int .i64 b, .int .i64 y]] w fun e w' => e = .returned (.int .i64 3) ∧ Kpt w w' := by
  go_enter Tryz.func98, Tryz.ntmps98
  go_wp2_with (first
    | (go_at_call 54; (with_reducible refine (rbt_any _ _ _ _ Y0 _).mono ?_); rintro e w9 ⟨rfl, rfl⟩)
    | (go_at_call 54; (with_reducible refine (rbt_any _ _ _ _ Y1 _).mono ?_); rintro e w9 ⟨rfl, rfl⟩)
    | (go_at_call 54; (with_reducible refine (rbt_any _ _ _ _ Y2 _).mono ?_); rintro e w9 ⟨rfl, rfl⟩)
    | (go_at_call 54; (with_reducible refine (rbt_any _ _ _ _ Y3 _).mono ?_); rintro e w9 ⟨rfl, rfl⟩)
    | (go_at_call 54; (with_reducible refine (rbt_any _ _ _ _ Y4 _).mono ?_); rintro e w9 ⟨rfl, rfl⟩))
  go_ret
  exact ⟨rfl, ((Kpt.refl w).alloc _)⟩
set_option maxHeartbeats 2000000 in
theorem rfc_5 (i f t c p d u x b y : Int) (Y0 : btw 1 1099511627776 i = true) (Y1 : btw 0 30 f = true) (Y2 : btw 0 30 t = true) (Y3 : btw 0 5 c = true) (Y4 : btw 1 20 p = true) (Y5 : btw 0 3652058 d = false) (w : World) :
    Calls Tryz.prog 98 #[.agg #[.int .i64 i, .int .i64 f, .int .i64 t, .int .i64 c, .int .i64 p, .int .i64 d, .int .i64 u, .int .i64 x, .int .i64 b, .int .i64 y]] w fun e w' => e = .returned (.int .i64 3) ∧ Kpt w w' := by
  go_enter Tryz.func98, Tryz.ntmps98
  go_wp2_with (first
    | (go_at_call 54; (with_reducible refine (rbt_any _ _ _ _ Y0 _).mono ?_); rintro e w9 ⟨rfl, rfl⟩)
    | (go_at_call 54; (with_reducible refine (rbt_any _ _ _ _ Y1 _).mono ?_); rintro e w9 ⟨rfl, rfl⟩)
    | (go_at_call 54; (with_reducible refine (rbt_any _ _ _ _ Y2 _).mono ?_); rintro e w9 ⟨rfl, rfl⟩)
    | (go_at_call 54; (with_reducible refine (rbt_any _ _ _ _ Y3 _).mono ?_); rintro e w9 ⟨rfl, rfl⟩)
    | (go_at_call 54; (with_reducible refine (rbt_any _ _ _ _ Y4 _).mono ?_); rintro e w9 ⟨rfl, rfl⟩)
    | (go_at_call 54; (with_reducible refine (rbt_any _ _ _ _ Y5 _).mono ?_); rintro e w9 ⟨rfl, rfl⟩))
  go_ret
  exact ⟨rfl, ((Kpt.refl w).alloc _)⟩
set_option maxHeartbeats 2000000 in
theorem rfc_6 (i f t c p d u x b y : Int) (Y0 : btw 1 1099511627776 i = true) (Y1 : btw 0 30 f = true) (Y2 : btw 0 30 t = true) (Y3 : btw 0 5 c = true) (Y4 : btw 1 20 p = true) (Y5 : btw 0 3652058 d = true) (Y6 : btw 1 1073741824 u = false) (w : World) :
    Calls Tryz.prog 98 #[.agg #[.int .i64 i, .int .i64 f, .int .i64 t, .int .i64 c, .int .i64 p, .int .i64 d, .int .i64 u, .int .i64 x, .int .i64 b, .int .i64 y]] w fun e w' => e = .returned (.int .i64 3) ∧ Kpt w w' := by
  go_enter Tryz.func98, Tryz.ntmps98
  go_wp2_with (first
    | (go_at_call 54; (with_reducible refine (rbt_any _ _ _ _ Y0 _).mono ?_); rintro e w9 ⟨rfl, rfl⟩)
    | (go_at_call 54; (with_reducible refine (rbt_any _ _ _ _ Y1 _).mono ?_); rintro e w9 ⟨rfl, rfl⟩)
    | (go_at_call 54; (with_reducible refine (rbt_any _ _ _ _ Y2 _).mono ?_); rintro e w9 ⟨rfl, rfl⟩)
    | (go_at_call 54; (with_reducible refine (rbt_any _ _ _ _ Y3 _).mono ?_); rintro e w9 ⟨rfl, rfl⟩)
    | (go_at_call 54; (with_reducible refine (rbt_any _ _ _ _ Y4 _).mono ?_); rintro e w9 ⟨rfl, rfl⟩)
    | (go_at_call 54; (with_reducible refine (rbt_any _ _ _ _ Y5 _).mono ?_); rintro e w9 ⟨rfl, rfl⟩)
    | (go_at_call 54; (with_reducible refine (rbt_any _ _ _ _ Y6 _).mono ?_); rintro e w9 ⟨rfl, rfl⟩))
  go_ret
  exact ⟨rfl, ((Kpt.refl w).alloc _)⟩
set_option maxHeartbeats 2000000 in
theorem rfc_eq (i f t c p d u x b y : Int) (Y0 : btw 1 1099511627776 i = true) (Y1 : btw 0 30 f = true) (Y2 : btw 0 30 t = true) (Y3 : btw 0 5 c = true) (Y4 : btw 1 20 p = true) (Y5 : btw 0 3652058 d = true) (Y6 : btw 1 1073741824 u = true) (h : (f == t) = true) (w : World) :
    Calls Tryz.prog 98 #[.agg #[.int .i64 i, .int .i64 f, .int .i64 t, .int .i64 c, .int .i64 p, .int .i64 d, .int .i64 u, .int .i64 x, .int .i64 b, .int .i64 y]] w fun e w' => e = .returned (.int .i64 1) ∧ Kpt w w' := by
  go_enter Tryz.func98, Tryz.ntmps98
  go_wp2_with (first
    | (go_at_call 54; (with_reducible refine (rbt_any _ _ _ _ Y0 _).mono ?_); rintro e w9 ⟨rfl, rfl⟩)
    | (go_at_call 54; (with_reducible refine (rbt_any _ _ _ _ Y1 _).mono ?_); rintro e w9 ⟨rfl, rfl⟩)
    | (go_at_call 54; (with_reducible refine (rbt_any _ _ _ _ Y2 _).mono ?_); rintro e w9 ⟨rfl, rfl⟩)
    | (go_at_call 54; (with_reducible refine (rbt_any _ _ _ _ Y3 _).mono ?_); rintro e w9 ⟨rfl, rfl⟩)
    | (go_at_call 54; (with_reducible refine (rbt_any _ _ _ _ Y4 _).mono ?_); rintro e w9 ⟨rfl, rfl⟩)
    | (go_at_call 54; (with_reducible refine (rbt_any _ _ _ _ Y5 _).mono ?_); rintro e w9 ⟨rfl, rfl⟩)
    | (go_at_call 54; (with_reducible refine (rbt_any _ _ _ _ Y6 _).mono ?_); rintro e w9 ⟨rfl, rfl⟩))
  go_ret
  exact ⟨rfl, ((Kpt.refl w).alloc _)⟩
set_option maxHeartbeats 2000000 in
theorem rfc_t0 (i f t c p d u x b y : Int) (Y0 : btw 1 1099511627776 i = true) (Y1 : btw 0 30 f = true) (Y2 : btw 0 30 t = true) (Y3 : btw 0 5 c = true) (Y4 : btw 1 20 p = true) (Y5 : btw 0 3652058 d = true) (Y6 : btw 1 1073741824 u = true) (h : (f == t) = false) (Y7 : btw 0 u x = false) (w : World) :
    Calls Tryz.prog 98 #[.agg #[.int .i64 i, .int .i64 f, .int .i64 t, .int .i64 c, .int .i64 p, .int .i64 d, .int .i64 u, .int .i64 x, .int .i64 b, .int .i64 y]] w fun e w' => e = .returned (.int .i64 3) ∧ Kpt w w' := by
  go_enter Tryz.func98, Tryz.ntmps98
  go_wp2_with (first
    | (go_at_call 54; (with_reducible refine (rbt_any _ _ _ _ Y0 _).mono ?_); rintro e w9 ⟨rfl, rfl⟩)
    | (go_at_call 54; (with_reducible refine (rbt_any _ _ _ _ Y1 _).mono ?_); rintro e w9 ⟨rfl, rfl⟩)
    | (go_at_call 54; (with_reducible refine (rbt_any _ _ _ _ Y2 _).mono ?_); rintro e w9 ⟨rfl, rfl⟩)
    | (go_at_call 54; (with_reducible refine (rbt_any _ _ _ _ Y3 _).mono ?_); rintro e w9 ⟨rfl, rfl⟩)
    | (go_at_call 54; (with_reducible refine (rbt_any _ _ _ _ Y4 _).mono ?_); rintro e w9 ⟨rfl, rfl⟩)
    | (go_at_call 54; (with_reducible refine (rbt_any _ _ _ _ Y5 _).mono ?_); rintro e w9 ⟨rfl, rfl⟩)
    | (go_at_call 54; (with_reducible refine (rbt_any _ _ _ _ Y6 _).mono ?_); rintro e w9 ⟨rfl, rfl⟩)
    | (go_at_call 54; (with_reducible refine (rbt_any _ _ _ _ Y7 _).mono ?_); rintro e w9 ⟨rfl, rfl⟩))
  go_ret
  exact ⟨rfl, ((Kpt.refl w).alloc _)⟩
set_option maxHeartbeats 2000000 in
theorem rfc_t1 (i f t c p d u x b y : Int) (Y0 : btw 1 1099511627776 i = true) (Y1 : btw 0 30 f = true) (Y2 : btw 0 30 t = true) (Y3 : btw 0 5 c = true) (Y4 : btw 1 20 p = true) (Y5 : btw 0 3652058 d = true) (Y6 : btw 1 1073741824 u = true) (h : (f == t) = false) (Y7 : btw 0 u x = true) (Y8 : btw 0 u b = false) (w : World) :
    Calls Tryz.prog 98 #[.agg #[.int .i64 i, .int .i64 f, .int .i64 t, .int .i64 c, .int .i64 p, .int .i64 d, .int .i64 u, .int .i64 x, .int .i64 b, .int .i64 y]] w fun e w' => e = .returned (.int .i64 3) ∧ Kpt w w' := by
  go_enter Tryz.func98, Tryz.ntmps98
  go_wp2_with (first
    | (go_at_call 54; (with_reducible refine (rbt_any _ _ _ _ Y0 _).mono ?_); rintro e w9 ⟨rfl, rfl⟩)
    | (go_at_call 54; (with_reducible refine (rbt_any _ _ _ _ Y1 _).mono ?_); rintro e w9 ⟨rfl, rfl⟩)
    | (go_at_call 54; (with_reducible refine (rbt_any _ _ _ _ Y2 _).mono ?_); rintro e w9 ⟨rfl, rfl⟩)
    | (go_at_call 54; (with_reducible refine (rbt_any _ _ _ _ Y3 _).mono ?_); rintro e w9 ⟨rfl, rfl⟩)
    | (go_at_call 54; (with_reducible refine (rbt_any _ _ _ _ Y4 _).mono ?_); rintro e w9 ⟨rfl, rfl⟩)
    | (go_at_call 54; (with_reducible refine (rbt_any _ _ _ _ Y5 _).mono ?_); rintro e w9 ⟨rfl, rfl⟩)
    | (go_at_call 54; (with_reducible refine (rbt_any _ _ _ _ Y6 _).mono ?_); rintro e w9 ⟨rfl, rfl⟩)
    | (go_at_call 54; (with_reducible refine (rbt_any _ _ _ _ Y7 _).mono ?_); rintro e w9 ⟨rfl, rfl⟩)
    | (go_at_call 54; (with_reducible refine (rbt_any _ _ _ _ Y8 _).mono ?_); rintro e w9 ⟨rfl, rfl⟩))
  go_ret
  exact ⟨rfl, ((Kpt.refl w).alloc _)⟩
set_option maxHeartbeats 2000000 in
theorem rfc_t2 (i f t c p d u x b y : Int) (Y0 : btw 1 1099511627776 i = true) (Y1 : btw 0 30 f = true) (Y2 : btw 0 30 t = true) (Y3 : btw 0 5 c = true) (Y4 : btw 1 20 p = true) (Y5 : btw 0 3652058 d = true) (Y6 : btw 1 1073741824 u = true) (h : (f == t) = false) (Y7 : btw 0 u x = true) (Y8 : btw 0 u b = true) (Y9 : btw 0 u y = false) (w : World) :
    Calls Tryz.prog 98 #[.agg #[.int .i64 i, .int .i64 f, .int .i64 t, .int .i64 c, .int .i64 p, .int .i64 d, .int .i64 u, .int .i64 x, .int .i64 b, .int .i64 y]] w fun e w' => e = .returned (.int .i64 3) ∧ Kpt w w' := by
  go_enter Tryz.func98, Tryz.ntmps98
  go_wp2_with (first
    | (go_at_call 54; (with_reducible refine (rbt_any _ _ _ _ Y0 _).mono ?_); rintro e w9 ⟨rfl, rfl⟩)
    | (go_at_call 54; (with_reducible refine (rbt_any _ _ _ _ Y1 _).mono ?_); rintro e w9 ⟨rfl, rfl⟩)
    | (go_at_call 54; (with_reducible refine (rbt_any _ _ _ _ Y2 _).mono ?_); rintro e w9 ⟨rfl, rfl⟩)
    | (go_at_call 54; (with_reducible refine (rbt_any _ _ _ _ Y3 _).mono ?_); rintro e w9 ⟨rfl, rfl⟩)
    | (go_at_call 54; (with_reducible refine (rbt_any _ _ _ _ Y4 _).mono ?_); rintro e w9 ⟨rfl, rfl⟩)
    | (go_at_call 54; (with_reducible refine (rbt_any _ _ _ _ Y5 _).mono ?_); rintro e w9 ⟨rfl, rfl⟩)
    | (go_at_call 54; (with_reducible refine (rbt_any _ _ _ _ Y6 _).mono ?_); rintro e w9 ⟨rfl, rfl⟩)
    | (go_at_call 54; (with_reducible refine (rbt_any _ _ _ _ Y7 _).mono ?_); rintro e w9 ⟨rfl, rfl⟩)
    | (go_at_call 54; (with_reducible refine (rbt_any _ _ _ _ Y8 _).mono ?_); rintro e w9 ⟨rfl, rfl⟩)
    | (go_at_call 54; (with_reducible refine (rbt_any _ _ _ _ Y9 _).mono ?_); rintro e w9 ⟨rfl, rfl⟩))
  go_ret
  exact ⟨rfl, ((Kpt.refl w).alloc _)⟩
set_option maxHeartbeats 2000000 in
theorem rfc_neg (i f t c p d u x b y : Int) (Y0 : btw 1 1099511627776 i = true) (Y1 : btw 0 30 f = true) (Y2 : btw 0 30 t = true) (Y3 : btw 0 5 c = true) (Y4 : btw 1 20 p = true) (Y5 : btw 0 3652058 d = true) (Y6 : btw 1 1073741824 u = true) (h : (f == t) = false) (Y7 : btw 0 u x = true) (Y8 : btw 0 u b = true) (Y9 : btw 0 u y = true) (ho : decide (u - x - b - y < 0) = true) (w : World) :
    Calls Tryz.prog 98 #[.agg #[.int .i64 i, .int .i64 f, .int .i64 t, .int .i64 c, .int .i64 p, .int .i64 d, .int .i64 u, .int .i64 x, .int .i64 b, .int .i64 y]] w fun e w' => e = .returned (.int .i64 4) ∧ Kpt w w' := by
  have OP := Lib.hid (fun w' => rfo_run i f t c p d u x b y w' (btw_t Y6) (btw_t Y7) (btw_t Y8) (btw_t Y9))
  generalize u - x - b - y = O at *
  go_enter Tryz.func98, Tryz.ntmps98
  go_wp2_with (first
    | (go_at_call 54; (with_reducible refine (rbt_any _ _ _ _ Y0 _).mono ?_); rintro e w9 ⟨rfl, rfl⟩)
    | (go_at_call 54; (with_reducible refine (rbt_any _ _ _ _ Y1 _).mono ?_); rintro e w9 ⟨rfl, rfl⟩)
    | (go_at_call 54; (with_reducible refine (rbt_any _ _ _ _ Y2 _).mono ?_); rintro e w9 ⟨rfl, rfl⟩)
    | (go_at_call 54; (with_reducible refine (rbt_any _ _ _ _ Y3 _).mono ?_); rintro e w9 ⟨rfl, rfl⟩)
    | (go_at_call 54; (with_reducible refine (rbt_any _ _ _ _ Y4 _).mono ?_); rintro e w9 ⟨rfl, rfl⟩)
    | (go_at_call 54; (with_reducible refine (rbt_any _ _ _ _ Y5 _).mono ?_); rintro e w9 ⟨rfl, rfl⟩)
    | (go_at_call 54; (with_reducible refine (rbt_any _ _ _ _ Y6 _).mono ?_); rintro e w9 ⟨rfl, rfl⟩)
    | (go_at_call 54; (with_reducible refine (rbt_any _ _ _ _ Y7 _).mono ?_); rintro e w9 ⟨rfl, rfl⟩)
    | (go_at_call 54; (with_reducible refine (rbt_any _ _ _ _ Y8 _).mono ?_); rintro e w9 ⟨rfl, rfl⟩)
    | (go_at_call 54; (with_reducible refine (rbt_any _ _ _ _ Y9 _).mono ?_); rintro e w9 ⟨rfl, rfl⟩)
    | (refine wp_loadF rfl (.tmp 1) rfl w.heap.size _ rfl (Blk.made w #[.int .i64 i, .int .i64 f, .int .i64 t, .int .i64 c, .int .i64 p, .int .i64 d, .int .i64 u, .int .i64 x, .int .i64 b, .int .i64 y] 42) rfl ?_)
    | (go_at_call 35; (with_reducible refine (OP.out _).mono ?_); rintro e w3 ⟨rfl, k3⟩; have K3 := Lib.hid (ktr ((Kpt.refl w).alloc (.cells #[.int .i64 i, .int .i64 f, .int .i64 t, .int .i64 c, .int .i64 p, .int .i64 d, .int .i64 u, .int .i64 x, .int .i64 b, .int .i64 y] 42)) k3); clear k3))
  go_ret
  exact ⟨rfl, K3.out⟩
set_option maxHeartbeats 2000000 in
theorem rfc_ok (i f t c p d u x b y : Int) (Y0 : btw 1 1099511627776 i = true) (Y1 : btw 0 30 f = true) (Y2 : btw 0 30 t = true) (Y3 : btw 0 5 c = true) (Y4 : btw 1 20 p = true) (Y5 : btw 0 3652058 d = true) (Y6 : btw 1 1073741824 u = true) (h : (f == t) = false) (Y7 : btw 0 u x = true) (Y8 : btw 0 u b = true) (Y9 : btw 0 u y = true) (ho : decide (u - x - b - y < 0) = false) (w : World) :
    Calls Tryz.prog 98 #[.agg #[.int .i64 i, .int .i64 f, .int .i64 t, .int .i64 c, .int .i64 p, .int .i64 d, .int .i64 u, .int .i64 x, .int .i64 b, .int .i64 y]] w fun e w' => e = .returned (.int .i64 0) ∧ Kpt w w' := by
  have OP := Lib.hid (fun w' => rfo_run i f t c p d u x b y w' (btw_t Y6) (btw_t Y7) (btw_t Y8) (btw_t Y9))
  generalize u - x - b - y = O at *
  go_enter Tryz.func98, Tryz.ntmps98
  go_wp2_with (first
    | (go_at_call 54; (with_reducible refine (rbt_any _ _ _ _ Y0 _).mono ?_); rintro e w9 ⟨rfl, rfl⟩)
    | (go_at_call 54; (with_reducible refine (rbt_any _ _ _ _ Y1 _).mono ?_); rintro e w9 ⟨rfl, rfl⟩)
    | (go_at_call 54; (with_reducible refine (rbt_any _ _ _ _ Y2 _).mono ?_); rintro e w9 ⟨rfl, rfl⟩)
    | (go_at_call 54; (with_reducible refine (rbt_any _ _ _ _ Y3 _).mono ?_); rintro e w9 ⟨rfl, rfl⟩)
    | (go_at_call 54; (with_reducible refine (rbt_any _ _ _ _ Y4 _).mono ?_); rintro e w9 ⟨rfl, rfl⟩)
    | (go_at_call 54; (with_reducible refine (rbt_any _ _ _ _ Y5 _).mono ?_); rintro e w9 ⟨rfl, rfl⟩)
    | (go_at_call 54; (with_reducible refine (rbt_any _ _ _ _ Y6 _).mono ?_); rintro e w9 ⟨rfl, rfl⟩)
    | (go_at_call 54; (with_reducible refine (rbt_any _ _ _ _ Y7 _).mono ?_); rintro e w9 ⟨rfl, rfl⟩)
    | (go_at_call 54; (with_reducible refine (rbt_any _ _ _ _ Y8 _).mono ?_); rintro e w9 ⟨rfl, rfl⟩)
    | (go_at_call 54; (with_reducible refine (rbt_any _ _ _ _ Y9 _).mono ?_); rintro e w9 ⟨rfl, rfl⟩)
    | (refine wp_loadF rfl (.tmp 1) rfl w.heap.size _ rfl (Blk.made w #[.int .i64 i, .int .i64 f, .int .i64 t, .int .i64 c, .int .i64 p, .int .i64 d, .int .i64 u, .int .i64 x, .int .i64 b, .int .i64 y] 42) rfl ?_)
    | (go_at_call 35; (with_reducible refine (OP.out _).mono ?_); rintro e w3 ⟨rfl, k3⟩; have K3 := Lib.hid (ktr ((Kpt.refl w).alloc (.cells #[.int .i64 i, .int .i64 f, .int .i64 t, .int .i64 c, .int .i64 p, .int .i64 d, .int .i64 u, .int .i64 x, .int .i64 b, .int .i64 y] 42)) k3); clear k3))
  go_ret
  exact ⟨rfl, K3.out⟩
theorem rfc_run (i f t c p d u x b y : Int) (w : World) :
    Calls Tryz.prog 98 #[.agg #[.int .i64 i, .int .i64 f, .int .i64 t, .int .i64 c, .int .i64 p, .int .i64 d, .int .i64 u, .int .i64 x, .int .i64 b, .int .i64 y]] w fun e w' => e = .returned (.int .i64 (failE i f t c p d u x b y)) ∧ Kpt w w' := by
  have bad : fdue i f t c p d u = false → failE i f t c p d u x b y = 3 := fun h => by unfold failE; rw [h]; rfl
  cases Y0 : btw 1 1099511627776 i with
  | false =>
    rw [bad (by cases hq : fdue i f t c p d u with
      | false => rfl
      | true => exact absurd (fdue_t hq) (by have := btw_f Y0; omega))]
    exact rfc_0 i f t c p d u x b y Y0 w
  | true =>
    cases Y1 : btw 0 30 f with
    | false =>
      rw [bad (by cases hq : fdue i f t c p d u with
        | false => rfl
        | true => exact absurd (fdue_t hq) (by have := btw_f Y1; omega))]
      exact rfc_1 i f t c p d u x b y Y0 Y1 w
    | true =>
      cases Y2 : btw 0 30 t with
      | false =>
        rw [bad (by cases hq : fdue i f t c p d u with
          | false => rfl
          | true => exact absurd (fdue_t hq) (by have := btw_f Y2; omega))]
        exact rfc_2 i f t c p d u x b y Y0 Y1 Y2 w
      | true =>
        cases Y3 : btw 0 5 c with
        | false =>
          rw [bad (by cases hq : fdue i f t c p d u with
            | false => rfl
            | true => exact absurd (fdue_t hq) (by have := btw_f Y3; omega))]
          exact rfc_3 i f t c p d u x b y Y0 Y1 Y2 Y3 w
        | true =>
          cases Y4 : btw 1 20 p with
          | false =>
            rw [bad (by cases hq : fdue i f t c p d u with
              | false => rfl
              | true => exact absurd (fdue_t hq) (by have := btw_f Y4; omega))]
            exact rfc_4 i f t c p d u x b y Y0 Y1 Y2 Y3 Y4 w
          | true =>
            cases Y5 : btw 0 3652058 d with
            | false =>
              rw [bad (by cases hq : fdue i f t c p d u with
                | false => rfl
                | true => exact absurd (fdue_t hq) (by have := btw_f Y5; omega))]
              exact rfc_5 i f t c p d u x b y Y0 Y1 Y2 Y3 Y4 Y5 w
            | true =>
              cases Y6 : btw 1 1073741824 u with
              | false =>
                rw [bad (by cases hq : fdue i f t c p d u with
                  | false => rfl
                  | true => exact absurd (fdue_t hq) (by have := btw_f Y6; omega))]
                exact rfc_6 i f t c p d u x b y Y0 Y1 Y2 Y3 Y4 Y5 Y6 w
              | true =>
                have Y : fdue i f t c p d u = true := fdue_mk ⟨btw_t Y5, btw_t Y0, ⟨btw_t Y1, btw_t Y2⟩, btw_t Y3, btw_t Y4, btw_t Y6⟩
                by_cases h : f = t
                · rw [show failE i f t c p d u x b y = 1 by unfold failE; rw [if_pos Y, if_pos h]]
                  exact rfc_eq i f t c p d u x b y Y0 Y1 Y2 Y3 Y4 Y5 Y6 (beq_iff_eq.2 h) w
                · have hn : (f == t) = false := beq_eq_false_iff_ne.2 h
                  cases Y7 : btw 0 u x with
                  | false =>
                    rw [show failE i f t c p d u x b y = 3 by unfold failE; rw [if_pos Y, if_neg h, if_neg (fun hq => absurd (ftk_t hq) (by have := btw_f Y7; omega))]]
                    exact rfc_t0 i f t c p d u x b y Y0 Y1 Y2 Y3 Y4 Y5 Y6 hn Y7 w
                  | true =>
                    cases Y8 : btw 0 u b with
                    | false =>
                      rw [show failE i f t c p d u x b y = 3 by unfold failE; rw [if_pos Y, if_neg h, if_neg (fun hq => absurd (ftk_t hq) (by have := btw_f Y8; omega))]]
                      exact rfc_t1 i f t c p d u x b y Y0 Y1 Y2 Y3 Y4 Y5 Y6 hn Y7 Y8 w
                    | true =>
                      cases Y9 : btw 0 u y with
                      | false =>
                        rw [show failE i f t c p d u x b y = 3 by unfold failE; rw [if_pos Y, if_neg h, if_neg (fun hq => absurd (ftk_t hq) (by have := btw_f Y9; omega))]]
                        exact rfc_t2 i f t c p d u x b y Y0 Y1 Y2 Y3 Y4 Y5 Y6 hn Y7 Y8 Y9 w
                      | true =>
                        have YT : ftk u x b y = true := ftk_mk ⟨btw_t Y7, btw_t Y8, btw_t Y9⟩
                        by_cases ho : u - x - b - y < 0
                        · rw [show failE i f t c p d u x b y = 4 by unfold failE; rw [if_pos Y, if_neg h, if_pos YT, if_pos ho]]
                          exact rfc_neg i f t c p d u x b y Y0 Y1 Y2 Y3 Y4 Y5 Y6 hn Y7 Y8 Y9 (decide_eq_true ho) w
                        · rw [show failE i f t c p d u x b y = 0 by unfold failE; rw [if_pos Y, if_neg h, if_pos YT, if_neg ho]]
                          exact rfc_ok i f t c p d u x b y Y0 Y1 Y2 Y3 Y4 Y5 Y6 hn Y7 Y8 Y9 (decide_eq_false ho) w
end Go.Proofs.YthaahebggboliaaGreat
namespace Go.Proofs.YthaahebggboliaaGreat
open Go.RowKit Go.Sort Go.Lib
set_option linter.unusedVariables false
theorem flB_fail {l : List Int} (h : failEL l = 0) : FlB l := by
  have fb := fail_0 (show failE _ _ _ _ _ _ _ _ _ _ = 0 from h)
  have fd := fdue_t fb.1
  have ft := ftk_t fb.2.2.1
  intro j hj
  rcases (show j = 0 ∨ j = 1 ∨ j = 2 ∨ j = 3 ∨ j = 4 ∨ j = 5 ∨ j = 6 ∨ j = 7 ∨ j = 8 ∨ j = 9 by omega) with rfl | rfl | rfl | rfl | rfl | rfl | rfl | rfl | rfl | rfl <;> omega
theorem inp_lin {b : List (Int × Int × Int)} (h : linE b = 0) : InP b := inP_of (strict_pt (lin_0 h).2.1)
theorem ck_fail {fs : List (List Int)} (h : checksE fs = 0) : ∀ l ∈ fs, failEL l = 0 := by
  unfold checksE at h
  split at h
  · cases h
  · exact (ids_ok.1 h).1
end Go.Proofs.YthaahebggboliaaGreat
namespace Go.Proofs.YthaahebggboliaaGreat
open Go.RowKit
set_option linter.unusedVariables false
set_option maxHeartbeats 2000000 in
theorem rls_e (i f t c p d u x b y n k E : Int) (h1 : (E == 0) = false) (h2 : (E != 0) = true) (w : World) (CK : ∀ w', Calls Tryz.prog 98 #[.agg #[.int .i64 i, .int .i64 f, .int .i64 t, .int .i64 c, .int .i64 p, .int .i64 d, .int .i64 u, .int .i64 x, .int .i64 b, .int .i64 y]] w' fun e w'' => e = .returned (.int .i64 E) ∧ Kpt w' w'') :
    Calls Tryz.prog 64 #[.agg #[.int .i64 i, .int .i64 f, .int .i64 t, .int .i64 c, .int .i64 p, .int .i64 d, .int .i64 u, .int .i64 x, .int .i64 b, .int .i64 y], .int .i64 n, .int .i64 k] w fun e w' => e = .returned (.tuple #[.agg #[.int .i64 0, .int .i64 0, .int .i64 0, .int .i64 0, .int .i64 0, .int .i64 0, .int .i64 0, .int .i64 0, .int .i64 0, .int .i64 0], .int .i64 E]) ∧ Kpt w w' := by
  have CK := Lib.hid CK
  have K0 : Hid (Kpt w ((w.alloc (.cells #[.int .i64 i, .int .i64 f, .int .i64 t, .int .i64 c, .int .i64 p, .int .i64 d, .int .i64 u, .int .i64 x, .int .i64 b, .int .i64 y] 42)).alloc (.cells #[.int .i64 0, .int .i64 0, .int .i64 0, .int .i64 0, .int .i64 0, .int .i64 0, .int .i64 0, .int .i64 0, .int .i64 0, .int .i64 0] 42))) := ((Kpt.refl w).alloc _).alloc _
  have B : Hid (Blk ((w.alloc (.cells #[.int .i64 i, .int .i64 f, .int .i64 t, .int .i64 c, .int .i64 p, .int .i64 d, .int .i64 u, .int .i64 x, .int .i64 b, .int .i64 y] 42)).alloc (.cells #[.int .i64 0, .int .i64 0, .int .i64 0, .int .i64 0, .int .i64 0, .int .i64 0, .int .i64 0, .int .i64 0, .int .i64 0, .int .i64 0] 42)) w.heap.size #[.int .i64 i, .int .i64 f, .int .i64 t, .int .i64 c, .int .i64 p, .int .i64 d, .int .i64 u, .int .i64 x, .int .i64 b, .int .i64 y] 42) := (Blk.made w _ _).alloc _
  have R : Hid (Blk ((w.alloc (.cells #[.int .i64 i, .int .i64 f, .int .i64 t, .int .i64 c, .int .i64 p, .int .i64 d, .int .i64 u, .int .i64 x, .int .i64 b, .int .i64 y] 42)).alloc (.cells #[.int .i64 0, .int .i64 0, .int .i64 0, .int .i64 0, .int .i64 0, .int .i64 0, .int .i64 0, .int .i64 0, .int .i64 0, .int .i64 0] 42)) (w.heap.size + 1) #[.int .i64 0, .int .i64 0, .int .i64 0, .int .i64 0, .int .i64 0, .int .i64 0, .int .i64 0, .int .i64 0, .int .i64 0, .int .i64 0] 42) := by
    have := Blk.made (w.alloc (.cells #[.int .i64 i, .int .i64 f, .int .i64 t, .int .i64 c, .int .i64 p, .int .i64 d, .int .i64 u, .int .i64 x, .int .i64 b, .int .i64 y] 42)) #[.int .i64 0, .int .i64 0, .int .i64 0, .int .i64 0, .int .i64 0, .int .i64 0, .int .i64 0, .int .i64 0, .int .i64 0, .int .i64 0] 42
    unfold Hid; simpa using this
  go_enter Tryz.func64, Tryz.ntmps64
  go_wp2_with (first
    | (refine wp_loadF rfl (.tmp 3) rfl w.heap.size _ rfl B.out rfl ?_)
    | (go_at_call 98; (with_reducible refine (CK.out _).mono ?_); rintro e q1 ⟨rfl, k1⟩; have K1 : Hid (Kpt w q1) := ktr K0.out k1; have B := Lib.hid (B.out.kpt k1); have R := Lib.hid (R.out.kpt k1); have b0 : World.cell? q1 ⟨w.heap.size, 0, none⟩ = some (.int .i64 i) := B.out.cell 0; have b1 : World.cell? q1 ⟨w.heap.size, 1, none⟩ = some (.int .i64 f) := B.out.cell 1; have b2 : World.cell? q1 ⟨w.heap.size, 2, none⟩ = some (.int .i64 t) := B.out.cell 2; have b3 : World.cell? q1 ⟨w.heap.size, 3, none⟩ = some (.int .i64 c) := B.out.cell 3; have b4 : World.cell? q1 ⟨w.heap.size, 4, none⟩ = some (.int .i64 p) := B.out.cell 4; have b5 : World.cell? q1 ⟨w.heap.size, 5, none⟩ = some (.int .i64 d) := B.out.cell 5; have b6 : World.cell? q1 ⟨w.heap.size, 6, none⟩ = some (.int .i64 u) := B.out.cell 6; have b7 : World.cell? q1 ⟨w.heap.size, 7, none⟩ = some (.int .i64 x) := B.out.cell 7; have b8 : World.cell? q1 ⟨w.heap.size, 8, none⟩ = some (.int .i64 b) := B.out.cell 8; have b9 : World.cell? q1 ⟨w.heap.size, 9, none⟩ = some (.int .i64 y) := B.out.cell 9; clear k1)
    | (go_at_call 54; (with_reducible refine (rbt_any _ _ _ _ Y _).mono ?_); rintro e w9 ⟨rfl, rfl⟩)
    | (refine wp_storeF rfl (.tmp 6) (.tmp 35) rfl (w.heap.size + 1) _ _ rfl rfl R.out rfl rfl (by simp [Value.oneCell']) ?_; intro w9 r9 k9 _; have R9 := Lib.hid r9; have K9 := Lib.hid (k9 _ _ K1.out (by omega)); clear r9 k9))
  exact bodyPost_ret (v := .tuple #[.agg #[.int .i64 0, .int .i64 0, .int .i64 0, .int .i64 0, .int .i64 0, .int .i64 0, .int .i64 0, .int .i64 0, .int .i64 0, .int .i64 0], .int .i64 E]) (results_F2 Tryz.results64 _ _ _ _ _ rfl rfl R9.out rfl) rfl ⟨rfl, K9.out⟩
set_option maxHeartbeats 2000000 in
theorem rls_r (i f t c p d u x b y n k E : Int) (h1 : (E == 0) = true) (Y : btw 1 1073741824 n = false) (w : World) (CK : ∀ w', Calls Tryz.prog 98 #[.agg #[.int .i64 i, .int .i64 f, .int .i64 t, .int .i64 c, .int .i64 p, .int .i64 d, .int .i64 u, .int .i64 x, .int .i64 b, .int .i64 y]] w' fun e w'' => e = .returned (.int .i64 E) ∧ Kpt w' w'') :
    Calls Tryz.prog 64 #[.agg #[.int .i64 i, .int .i64 f, .int .i64 t, .int .i64 c, .int .i64 p, .int .i64 d, .int .i64 u, .int .i64 x, .int .i64 b, .int .i64 y], .int .i64 n, .int .i64 k] w fun e w' => e = .returned (.tuple #[.agg #[.int .i64 0, .int .i64 0, .int .i64 0, .int .i64 0, .int .i64 0, .int .i64 0, .int .i64 0, .int .i64 0, .int .i64 0, .int .i64 0], .int .i64 3]) ∧ Kpt w w' := by
  have CK := Lib.hid CK
  have K0 : Hid (Kpt w ((w.alloc (.cells #[.int .i64 i, .int .i64 f, .int .i64 t, .int .i64 c, .int .i64 p, .int .i64 d, .int .i64 u, .int .i64 x, .int .i64 b, .int .i64 y] 42)).alloc (.cells #[.int .i64 0, .int .i64 0, .int .i64 0, .int .i64 0, .int .i64 0, .int .i64 0, .int .i64 0, .int .i64 0, .int .i64 0, .int .i64 0] 42))) := ((Kpt.refl w).alloc _).alloc _
  have B : Hid (Blk ((w.alloc (.cells #[.int .i64 i, .int .i64 f, .int .i64 t, .int .i64 c, .int .i64 p, .int .i64 d, .int .i64 u, .int .i64 x, .int .i64 b, .int .i64 y] 42)).alloc (.cells #[.int .i64 0, .int .i64 0, .int .i64 0, .int .i64 0, .int .i64 0, .int .i64 0, .int .i64 0, .int .i64 0, .int .i64 0, .int .i64 0] 42)) w.heap.size #[.int .i64 i, .int .i64 f, .int .i64 t, .int .i64 c, .int .i64 p, .int .i64 d, .int .i64 u, .int .i64 x, .int .i64 b, .int .i64 y] 42) := (Blk.made w _ _).alloc _
  have R : Hid (Blk ((w.alloc (.cells #[.int .i64 i, .int .i64 f, .int .i64 t, .int .i64 c, .int .i64 p, .int .i64 d, .int .i64 u, .int .i64 x, .int .i64 b, .int .i64 y] 42)).alloc (.cells #[.int .i64 0, .int .i64 0, .int .i64 0, .int .i64 0, .int .i64 0, .int .i64 0, .int .i64 0, .int .i64 0, .int .i64 0, .int .i64 0] 42)) (w.heap.size + 1) #[.int .i64 0, .int .i64 0, .int .i64 0, .int .i64 0, .int .i64 0, .int .i64 0, .int .i64 0, .int .i64 0, .int .i64 0, .int .i64 0] 42) := by
    have := Blk.made (w.alloc (.cells #[.int .i64 i, .int .i64 f, .int .i64 t, .int .i64 c, .int .i64 p, .int .i64 d, .int .i64 u, .int .i64 x, .int .i64 b, .int .i64 y] 42)) #[.int .i64 0, .int .i64 0, .int .i64 0, .int .i64 0, .int .i64 0, .int .i64 0, .int .i64 0, .int .i64 0, .int .i64 0, .int .i64 0] 42
    unfold Hid; simpa using this
  go_enter Tryz.func64, Tryz.ntmps64
  go_wp2_with (first
    | (refine wp_loadF rfl (.tmp 3) rfl w.heap.size _ rfl B.out rfl ?_)
    | (go_at_call 98; (with_reducible refine (CK.out _).mono ?_); rintro e q1 ⟨rfl, k1⟩; have K1 : Hid (Kpt w q1) := ktr K0.out k1; have B := Lib.hid (B.out.kpt k1); have R := Lib.hid (R.out.kpt k1); have b0 : World.cell? q1 ⟨w.heap.size, 0, none⟩ = some (.int .i64 i) := B.out.cell 0; have b1 : World.cell? q1 ⟨w.heap.size, 1, none⟩ = some (.int .i64 f) := B.out.cell 1; have b2 : World.cell? q1 ⟨w.heap.size, 2, none⟩ = some (.int .i64 t) := B.out.cell 2; have b3 : World.cell? q1 ⟨w.heap.size, 3, none⟩ = some (.int .i64 c) := B.out.cell 3; have b4 : World.cell? q1 ⟨w.heap.size, 4, none⟩ = some (.int .i64 p) := B.out.cell 4; have b5 : World.cell? q1 ⟨w.heap.size, 5, none⟩ = some (.int .i64 d) := B.out.cell 5; have b6 : World.cell? q1 ⟨w.heap.size, 6, none⟩ = some (.int .i64 u) := B.out.cell 6; have b7 : World.cell? q1 ⟨w.heap.size, 7, none⟩ = some (.int .i64 x) := B.out.cell 7; have b8 : World.cell? q1 ⟨w.heap.size, 8, none⟩ = some (.int .i64 b) := B.out.cell 8; have b9 : World.cell? q1 ⟨w.heap.size, 9, none⟩ = some (.int .i64 y) := B.out.cell 9; clear k1)
    | (go_at_call 54; (with_reducible refine (rbt_any _ _ _ _ Y _).mono ?_); rintro e w9 ⟨rfl, rfl⟩)
    | (refine wp_storeF rfl (.tmp 6) (.tmp 35) rfl (w.heap.size + 1) _ _ rfl rfl R.out rfl rfl (by simp [Value.oneCell']) ?_; intro w9 r9 k9 _; have R9 := Lib.hid r9; have K9 := Lib.hid (k9 _ _ K1.out (by omega)); clear r9 k9))
  exact bodyPost_ret (v := .tuple #[.agg #[.int .i64 0, .int .i64 0, .int .i64 0, .int .i64 0, .int .i64 0, .int .i64 0, .int .i64 0, .int .i64 0, .int .i64 0, .int .i64 0], .int .i64 3]) (results_F2 Tryz.results64 _ _ _ _ _ rfl rfl R9.out rfl) rfl ⟨rfl, K9.out⟩
set_option maxHeartbeats 2000000 in
theorem rls_n (i f t c p d u x b y n k E O : Int) (h1 : (E == 0) = true) (Y : btw 1 1073741824 n = true) (h3 : (O == 0) = true) (w : World) (CK : ∀ w', Calls Tryz.prog 98 #[.agg #[.int .i64 i, .int .i64 f, .int .i64 t, .int .i64 c, .int .i64 p, .int .i64 d, .int .i64 u, .int .i64 x, .int .i64 b, .int .i64 y]] w' fun e w'' => e = .returned (.int .i64 E) ∧ Kpt w' w'') (OP : ∀ w', Calls Tryz.prog 35 #[.agg #[.int .i64 i, .int .i64 f, .int .i64 t, .int .i64 c, .int .i64 p, .int .i64 d, .int .i64 u, .int .i64 x, .int .i64 b, .int .i64 y]] w' fun e w'' => e = .returned (.int .i64 O) ∧ Kpt w' w'') :
    Calls Tryz.prog 64 #[.agg #[.int .i64 i, .int .i64 f, .int .i64 t, .int .i64 c, .int .i64 p, .int .i64 d, .int .i64 u, .int .i64 x, .int .i64 b, .int .i64 y], .int .i64 n, .int .i64 k] w fun e w' => e = .returned (.tuple #[.agg #[.int .i64 0, .int .i64 0, .int .i64 0, .int .i64 0, .int .i64 0, .int .i64 0, .int .i64 0, .int .i64 0, .int .i64 0, .int .i64 0], .int .i64 5]) ∧ Kpt w w' := by
  have CK := Lib.hid CK
  have OP := Lib.hid OP
  have K0 : Hid (Kpt w ((w.alloc (.cells #[.int .i64 i, .int .i64 f, .int .i64 t, .int .i64 c, .int .i64 p, .int .i64 d, .int .i64 u, .int .i64 x, .int .i64 b, .int .i64 y] 42)).alloc (.cells #[.int .i64 0, .int .i64 0, .int .i64 0, .int .i64 0, .int .i64 0, .int .i64 0, .int .i64 0, .int .i64 0, .int .i64 0, .int .i64 0] 42))) := ((Kpt.refl w).alloc _).alloc _
  have B : Hid (Blk ((w.alloc (.cells #[.int .i64 i, .int .i64 f, .int .i64 t, .int .i64 c, .int .i64 p, .int .i64 d, .int .i64 u, .int .i64 x, .int .i64 b, .int .i64 y] 42)).alloc (.cells #[.int .i64 0, .int .i64 0, .int .i64 0, .int .i64 0, .int .i64 0, .int .i64 0, .int .i64 0, .int .i64 0, .int .i64 0, .int .i64 0] 42)) w.heap.size #[.int .i64 i, .int .i64 f, .int .i64 t, .int .i64 c, .int .i64 p, .int .i64 d, .int .i64 u, .int .i64 x, .int .i64 b, .int .i64 y] 42) := (Blk.made w _ _).alloc _
  have R : Hid (Blk ((w.alloc (.cells #[.int .i64 i, .int .i64 f, .int .i64 t, .int .i64 c, .int .i64 p, .int .i64 d, .int .i64 u, .int .i64 x, .int .i64 b, .int .i64 y] 42)).alloc (.cells #[.int .i64 0, .int .i64 0, .int .i64 0, .int .i64 0, .int .i64 0, .int .i64 0, .int .i64 0, .int .i64 0, .int .i64 0, .int .i64 0] 42)) (w.heap.size + 1) #[.int .i64 0, .int .i64 0, .int .i64 0, .int .i64 0, .int .i64 0, .int .i64 0, .int .i64 0, .int .i64 0, .int .i64 0, .int .i64 0] 42) := by
    have := Blk.made (w.alloc (.cells #[.int .i64 i, .int .i64 f, .int .i64 t, .int .i64 c, .int .i64 p, .int .i64 d, .int .i64 u, .int .i64 x, .int .i64 b, .int .i64 y] 42)) #[.int .i64 0, .int .i64 0, .int .i64 0, .int .i64 0, .int .i64 0, .int .i64 0, .int .i64 0, .int .i64 0, .int .i64 0, .int .i64 0] 42
    unfold Hid; simpa using this
  go_enter Tryz.func64, Tryz.ntmps64
  go_wp2_with (first
    | (refine wp_loadF rfl (.tmp 3) rfl w.heap.size _ rfl B.out rfl ?_)
    | (go_at_call 98; (with_reducible refine (CK.out _).mono ?_); rintro e q1 ⟨rfl, k1⟩; have K1 : Hid (Kpt w q1) := ktr K0.out k1; have B := Lib.hid (B.out.kpt k1); have R := Lib.hid (R.out.kpt k1); have b0 : World.cell? q1 ⟨w.heap.size, 0, none⟩ = some (.int .i64 i) := B.out.cell 0; have b1 : World.cell? q1 ⟨w.heap.size, 1, none⟩ = some (.int .i64 f) := B.out.cell 1; have b2 : World.cell? q1 ⟨w.heap.size, 2, none⟩ = some (.int .i64 t) := B.out.cell 2; have b3 : World.cell? q1 ⟨w.heap.size, 3, none⟩ = some (.int .i64 c) := B.out.cell 3; have b4 : World.cell? q1 ⟨w.heap.size, 4, none⟩ = some (.int .i64 p) := B.out.cell 4; have b5 : World.cell? q1 ⟨w.heap.size, 5, none⟩ = some (.int .i64 d) := B.out.cell 5; have b6 : World.cell? q1 ⟨w.heap.size, 6, none⟩ = some (.int .i64 u) := B.out.cell 6; have b7 : World.cell? q1 ⟨w.heap.size, 7, none⟩ = some (.int .i64 x) := B.out.cell 7; have b8 : World.cell? q1 ⟨w.heap.size, 8, none⟩ = some (.int .i64 b) := B.out.cell 8; have b9 : World.cell? q1 ⟨w.heap.size, 9, none⟩ = some (.int .i64 y) := B.out.cell 9; clear k1)
    | (go_at_call 35; (with_reducible refine (OP.out _).mono ?_); rintro e q2 ⟨rfl, k1⟩; have K2 : Hid (Kpt w q2) := ktr K1.out k1; have B := Lib.hid (B.out.kpt k1); have R := Lib.hid (R.out.kpt k1); have b0 : World.cell? q2 ⟨w.heap.size, 0, none⟩ = some (.int .i64 i) := B.out.cell 0; have b1 : World.cell? q2 ⟨w.heap.size, 1, none⟩ = some (.int .i64 f) := B.out.cell 1; have b2 : World.cell? q2 ⟨w.heap.size, 2, none⟩ = some (.int .i64 t) := B.out.cell 2; have b3 : World.cell? q2 ⟨w.heap.size, 3, none⟩ = some (.int .i64 c) := B.out.cell 3; have b4 : World.cell? q2 ⟨w.heap.size, 4, none⟩ = some (.int .i64 p) := B.out.cell 4; have b5 : World.cell? q2 ⟨w.heap.size, 5, none⟩ = some (.int .i64 d) := B.out.cell 5; have b6 : World.cell? q2 ⟨w.heap.size, 6, none⟩ = some (.int .i64 u) := B.out.cell 6; have b7 : World.cell? q2 ⟨w.heap.size, 7, none⟩ = some (.int .i64 x) := B.out.cell 7; have b8 : World.cell? q2 ⟨w.heap.size, 8, none⟩ = some (.int .i64 b) := B.out.cell 8; have b9 : World.cell? q2 ⟨w.heap.size, 9, none⟩ = some (.int .i64 y) := B.out.cell 9; clear k1)
    | (go_at_call 54; (with_reducible refine (rbt_any _ _ _ _ Y _).mono ?_); rintro e w9 ⟨rfl, rfl⟩)
    | (refine wp_storeF rfl (.tmp 6) (.tmp 35) rfl (w.heap.size + 1) _ _ rfl rfl R.out rfl rfl (by simp [Value.oneCell']) ?_; intro w9 r9 k9 _; have R9 := Lib.hid r9; have K9 := Lib.hid (k9 _ _ K2.out (by omega)); clear r9 k9))
  exact bodyPost_ret (v := .tuple #[.agg #[.int .i64 0, .int .i64 0, .int .i64 0, .int .i64 0, .int .i64 0, .int .i64 0, .int .i64 0, .int .i64 0, .int .i64 0, .int .i64 0], .int .i64 5]) (results_F2 Tryz.results64 _ _ _ _ _ rfl rfl R9.out rfl) rfl ⟨rfl, K9.out⟩
set_option maxHeartbeats 2000000 in
theorem rls_w (i f t c p d u x b y n k E O : Int) (h1 : (E == 0) = true) (Y : btw 1 1073741824 n = true) (h3 : (O == 0) = false) (h4 : decide (O < n) = true) (w : World) (CK : ∀ w', Calls Tryz.prog 98 #[.agg #[.int .i64 i, .int .i64 f, .int .i64 t, .int .i64 c, .int .i64 p, .int .i64 d, .int .i64 u, .int .i64 x, .int .i64 b, .int .i64 y]] w' fun e w'' => e = .returned (.int .i64 E) ∧ Kpt w' w'') (OP : ∀ w', Calls Tryz.prog 35 #[.agg #[.int .i64 i, .int .i64 f, .int .i64 t, .int .i64 c, .int .i64 p, .int .i64 d, .int .i64 u, .int .i64 x, .int .i64 b, .int .i64 y]] w' fun e w'' => e = .returned (.int .i64 O) ∧ Kpt w' w'') :
    Calls Tryz.prog 64 #[.agg #[.int .i64 i, .int .i64 f, .int .i64 t, .int .i64 c, .int .i64 p, .int .i64 d, .int .i64 u, .int .i64 x, .int .i64 b, .int .i64 y], .int .i64 n, .int .i64 k] w fun e w' => e = .returned (.tuple #[.agg #[.int .i64 0, .int .i64 0, .int .i64 0, .int .i64 0, .int .i64 0, .int .i64 0, .int .i64 0, .int .i64 0, .int .i64 0, .int .i64 0], .int .i64 8]) ∧ Kpt w w' := by
  have CK := Lib.hid CK
  have OP := Lib.hid OP
  have K0 : Hid (Kpt w ((w.alloc (.cells #[.int .i64 i, .int .i64 f, .int .i64 t, .int .i64 c, .int .i64 p, .int .i64 d, .int .i64 u, .int .i64 x, .int .i64 b, .int .i64 y] 42)).alloc (.cells #[.int .i64 0, .int .i64 0, .int .i64 0, .int .i64 0, .int .i64 0, .int .i64 0, .int .i64 0, .int .i64 0, .int .i64 0, .int .i64 0] 42))) := ((Kpt.refl w).alloc _).alloc _
  have B : Hid (Blk ((w.alloc (.cells #[.int .i64 i, .int .i64 f, .int .i64 t, .int .i64 c, .int .i64 p, .int .i64 d, .int .i64 u, .int .i64 x, .int .i64 b, .int .i64 y] 42)).alloc (.cells #[.int .i64 0, .int .i64 0, .int .i64 0, .int .i64 0, .int .i64 0, .int .i64 0, .int .i64 0, .int .i64 0, .int .i64 0, .int .i64 0] 42)) w.heap.size #[.int .i64 i, .int .i64 f, .int .i64 t, .int .i64 c, .int .i64 p, .int .i64 d, .int .i64 u, .int .i64 x, .int .i64 b, .int .i64 y] 42) := (Blk.made w _ _).alloc _
  have R : Hid (Blk ((w.alloc (.cells #[.int .i64 i, .int .i64 f, .int .i64 t, .int .i64 c, .int .i64 p, .int .i64 d, .int .i64 u, .int .i64 x, .int .i64 b, .int .i64 y] 42)).alloc (.cells #[.int .i64 0, .int .i64 0, .int .i64 0, .int .i64 0, .int .i64 0, .int .i64 0, .int .i64 0, .int .i64 0, .int .i64 0, .int .i64 0] 42)) (w.heap.size + 1) #[.int .i64 0, .int .i64 0, .int .i64 0, .int .i64 0, .int .i64 0, .int .i64 0, .int .i64 0, .int .i64 0, .int .i64 0, .int .i64 0] 42) := by
    have := Blk.made (w.alloc (.cells #[.int .i64 i, .int .i64 f, .int .i64 t, .int .i64 c, .int .i64 p, .int .i64 d, .int .i64 u, .int .i64 x, .int .i64 b, .int .i64 y] 42)) #[.int .i64 0, .int .i64 0, .int .i64 0, .int .i64 0, .int .i64 0, .int .i64 0, .int .i64 0, .int .i64 0, .int .i64 0, .int .i64 0] 42
    unfold Hid; simpa using this
  go_enter Tryz.func64, Tryz.ntmps64
  go_wp2_with (first
    | (refine wp_loadF rfl (.tmp 3) rfl w.heap.size _ rfl B.out rfl ?_)
    | (go_at_call 98; (with_reducible refine (CK.out _).mono ?_); rintro e q1 ⟨rfl, k1⟩; have K1 : Hid (Kpt w q1) := ktr K0.out k1; have B := Lib.hid (B.out.kpt k1); have R := Lib.hid (R.out.kpt k1); have b0 : World.cell? q1 ⟨w.heap.size, 0, none⟩ = some (.int .i64 i) := B.out.cell 0; have b1 : World.cell? q1 ⟨w.heap.size, 1, none⟩ = some (.int .i64 f) := B.out.cell 1; have b2 : World.cell? q1 ⟨w.heap.size, 2, none⟩ = some (.int .i64 t) := B.out.cell 2; have b3 : World.cell? q1 ⟨w.heap.size, 3, none⟩ = some (.int .i64 c) := B.out.cell 3; have b4 : World.cell? q1 ⟨w.heap.size, 4, none⟩ = some (.int .i64 p) := B.out.cell 4; have b5 : World.cell? q1 ⟨w.heap.size, 5, none⟩ = some (.int .i64 d) := B.out.cell 5; have b6 : World.cell? q1 ⟨w.heap.size, 6, none⟩ = some (.int .i64 u) := B.out.cell 6; have b7 : World.cell? q1 ⟨w.heap.size, 7, none⟩ = some (.int .i64 x) := B.out.cell 7; have b8 : World.cell? q1 ⟨w.heap.size, 8, none⟩ = some (.int .i64 b) := B.out.cell 8; have b9 : World.cell? q1 ⟨w.heap.size, 9, none⟩ = some (.int .i64 y) := B.out.cell 9; clear k1)
    | (go_at_call 35; (with_reducible refine (OP.out _).mono ?_); rintro e q2 ⟨rfl, k1⟩; have K2 : Hid (Kpt w q2) := ktr K1.out k1; have B := Lib.hid (B.out.kpt k1); have R := Lib.hid (R.out.kpt k1); have b0 : World.cell? q2 ⟨w.heap.size, 0, none⟩ = some (.int .i64 i) := B.out.cell 0; have b1 : World.cell? q2 ⟨w.heap.size, 1, none⟩ = some (.int .i64 f) := B.out.cell 1; have b2 : World.cell? q2 ⟨w.heap.size, 2, none⟩ = some (.int .i64 t) := B.out.cell 2; have b3 : World.cell? q2 ⟨w.heap.size, 3, none⟩ = some (.int .i64 c) := B.out.cell 3; have b4 : World.cell? q2 ⟨w.heap.size, 4, none⟩ = some (.int .i64 p) := B.out.cell 4; have b5 : World.cell? q2 ⟨w.heap.size, 5, none⟩ = some (.int .i64 d) := B.out.cell 5; have b6 : World.cell? q2 ⟨w.heap.size, 6, none⟩ = some (.int .i64 u) := B.out.cell 6; have b7 : World.cell? q2 ⟨w.heap.size, 7, none⟩ = some (.int .i64 x) := B.out.cell 7; have b8 : World.cell? q2 ⟨w.heap.size, 8, none⟩ = some (.int .i64 b) := B.out.cell 8; have b9 : World.cell? q2 ⟨w.heap.size, 9, none⟩ = some (.int .i64 y) := B.out.cell 9; clear k1)
    | (go_at_call 35; (with_reducible refine (OP.out _).mono ?_); rintro e q3 ⟨rfl, k1⟩; have K3 : Hid (Kpt w q3) := ktr K2.out k1; have B := Lib.hid (B.out.kpt k1); have R := Lib.hid (R.out.kpt k1); have b0 : World.cell? q3 ⟨w.heap.size, 0, none⟩ = some (.int .i64 i) := B.out.cell 0; have b1 : World.cell? q3 ⟨w.heap.size, 1, none⟩ = some (.int .i64 f) := B.out.cell 1; have b2 : World.cell? q3 ⟨w.heap.size, 2, none⟩ = some (.int .i64 t) := B.out.cell 2; have b3 : World.cell? q3 ⟨w.heap.size, 3, none⟩ = some (.int .i64 c) := B.out.cell 3; have b4 : World.cell? q3 ⟨w.heap.size, 4, none⟩ = some (.int .i64 p) := B.out.cell 4; have b5 : World.cell? q3 ⟨w.heap.size, 5, none⟩ = some (.int .i64 d) := B.out.cell 5; have b6 : World.cell? q3 ⟨w.heap.size, 6, none⟩ = some (.int .i64 u) := B.out.cell 6; have b7 : World.cell? q3 ⟨w.heap.size, 7, none⟩ = some (.int .i64 x) := B.out.cell 7; have b8 : World.cell? q3 ⟨w.heap.size, 8, none⟩ = some (.int .i64 b) := B.out.cell 8; have b9 : World.cell? q3 ⟨w.heap.size, 9, none⟩ = some (.int .i64 y) := B.out.cell 9; clear k1)
    | (go_at_call 54; (with_reducible refine (rbt_any _ _ _ _ Y _).mono ?_); rintro e w9 ⟨rfl, rfl⟩)
    | (refine wp_storeF rfl (.tmp 6) (.tmp 35) rfl (w.heap.size + 1) _ _ rfl rfl R.out rfl rfl (by simp [Value.oneCell']) ?_; intro w9 r9 k9 _; have R9 := Lib.hid r9; have K9 := Lib.hid (k9 _ _ K3.out (by omega)); clear r9 k9))
  exact bodyPost_ret (v := .tuple #[.agg #[.int .i64 0, .int .i64 0, .int .i64 0, .int .i64 0, .int .i64 0, .int .i64 0, .int .i64 0, .int .i64 0, .int .i64 0, .int .i64 0], .int .i64 8]) (results_F2 Tryz.results64 _ _ _ _ _ rfl rfl R9.out rfl) rfl ⟨rfl, K9.out⟩
set_option maxHeartbeats 2000000 in
theorem rls_1 (i f t c p d u x b y n k E O : Int) (h1 : (E == 0) = true) (h2 : (E != 0) = false) (Y : btw 1 1073741824 n = true) (h3 : (O == 0) = false) (h4 : decide (O < n) = false) (Y1 : 0 ≤ x ∧ x ≤ 1073741824) (Y2 : 1 ≤ n ∧ n ≤ 1073741824) (h5 : (k == 1) = true) (w : World) (CK : ∀ w', Calls Tryz.prog 98 #[.agg #[.int .i64 i, .int .i64 f, .int .i64 t, .int .i64 c, .int .i64 p, .int .i64 d, .int .i64 u, .int .i64 x, .int .i64 b, .int .i64 y]] w' fun e w'' => e = .returned (.int .i64 E) ∧ Kpt w' w'') (OP : ∀ w', Calls Tryz.prog 35 #[.agg #[.int .i64 i, .int .i64 f, .int .i64 t, .int .i64 c, .int .i64 p, .int .i64 d, .int .i64 u, .int .i64 x, .int .i64 b, .int .i64 y]] w' fun e w'' => e = .returned (.int .i64 O) ∧ Kpt w' w'') :
    Calls Tryz.prog 64 #[.agg #[.int .i64 i, .int .i64 f, .int .i64 t, .int .i64 c, .int .i64 p, .int .i64 d, .int .i64 u, .int .i64 x, .int .i64 b, .int .i64 y], .int .i64 n, .int .i64 k] w fun e w' => e = .returned (.tuple #[.agg #[.int .i64 i, .int .i64 f, .int .i64 t, .int .i64 c, .int .i64 p, .int .i64 d, .int .i64 u, .int .i64 (x + n), .int .i64 b, .int .i64 y], .int .i64 0]) ∧ Kpt w w' := by
  have CK := Lib.hid CK
  have OP := Lib.hid OP
  have K0 : Hid (Kpt w ((w.alloc (.cells #[.int .i64 i, .int .i64 f, .int .i64 t, .int .i64 c, .int .i64 p, .int .i64 d, .int .i64 u, .int .i64 x, .int .i64 b, .int .i64 y] 42)).alloc (.cells #[.int .i64 0, .int .i64 0, .int .i64 0, .int .i64 0, .int .i64 0, .int .i64 0, .int .i64 0, .int .i64 0, .int .i64 0, .int .i64 0] 42))) := ((Kpt.refl w).alloc _).alloc _
  have B : Hid (Blk ((w.alloc (.cells #[.int .i64 i, .int .i64 f, .int .i64 t, .int .i64 c, .int .i64 p, .int .i64 d, .int .i64 u, .int .i64 x, .int .i64 b, .int .i64 y] 42)).alloc (.cells #[.int .i64 0, .int .i64 0, .int .i64 0, .int .i64 0, .int .i64 0, .int .i64 0, .int .i64 0, .int .i64 0, .int .i64 0, .int .i64 0] 42)) w.heap.size #[.int .i64 i, .int .i64 f, .int .i64 t, .int .i64 c, .int .i64 p, .int .i64 d, .int .i64 u, .int .i64 x, .int .i64 b, .int .i64 y] 42) := (Blk.made w _ _).alloc _
  have R : Hid (Blk ((w.alloc (.cells #[.int .i64 i, .int .i64 f, .int .i64 t, .int .i64 c, .int .i64 p, .int .i64 d, .int .i64 u, .int .i64 x, .int .i64 b, .int .i64 y] 42)).alloc (.cells #[.int .i64 0, .int .i64 0, .int .i64 0, .int .i64 0, .int .i64 0, .int .i64 0, .int .i64 0, .int .i64 0, .int .i64 0, .int .i64 0] 42)) (w.heap.size + 1) #[.int .i64 0, .int .i64 0, .int .i64 0, .int .i64 0, .int .i64 0, .int .i64 0, .int .i64 0, .int .i64 0, .int .i64 0, .int .i64 0] 42) := by
    have := Blk.made (w.alloc (.cells #[.int .i64 i, .int .i64 f, .int .i64 t, .int .i64 c, .int .i64 p, .int .i64 d, .int .i64 u, .int .i64 x, .int .i64 b, .int .i64 y] 42)) #[.int .i64 0, .int .i64 0, .int .i64 0, .int .i64 0, .int .i64 0, .int .i64 0, .int .i64 0, .int .i64 0, .int .i64 0, .int .i64 0] 42
    unfold Hid; simpa using this
  have e1 : IntKind.i64.wrap (x + n) = x + n := by unfold IntKind.wrap; simp [IntKind.bits, IntKind.signed]; omega
  clear Y1 Y2
  go_enter Tryz.func64, Tryz.ntmps64
  go_wp2_with (first
    | (refine wp_loadF rfl (.tmp 3) rfl w.heap.size _ rfl B.out rfl ?_)
    | (go_at_call 98; (with_reducible refine (CK.out _).mono ?_); rintro e q1 ⟨rfl, k1⟩; have K1 : Hid (Kpt w q1) := ktr K0.out k1; have B := Lib.hid (B.out.kpt k1); have R := Lib.hid (R.out.kpt k1); have b0 : World.cell? q1 ⟨w.heap.size, 0, none⟩ = some (.int .i64 i) := B.out.cell 0; have b1 : World.cell? q1 ⟨w.heap.size, 1, none⟩ = some (.int .i64 f) := B.out.cell 1; have b2 : World.cell? q1 ⟨w.heap.size, 2, none⟩ = some (.int .i64 t) := B.out.cell 2; have b3 : World.cell? q1 ⟨w.heap.size, 3, none⟩ = some (.int .i64 c) := B.out.cell 3; have b4 : World.cell? q1 ⟨w.heap.size, 4, none⟩ = some (.int .i64 p) := B.out.cell 4; have b5 : World.cell? q1 ⟨w.heap.size, 5, none⟩ = some (.int .i64 d) := B.out.cell 5; have b6 : World.cell? q1 ⟨w.heap.size, 6, none⟩ = some (.int .i64 u) := B.out.cell 6; have b7 : World.cell? q1 ⟨w.heap.size, 7, none⟩ = some (.int .i64 x) := B.out.cell 7; have b8 : World.cell? q1 ⟨w.heap.size, 8, none⟩ = some (.int .i64 b) := B.out.cell 8; have b9 : World.cell? q1 ⟨w.heap.size, 9, none⟩ = some (.int .i64 y) := B.out.cell 9; clear k1)
    | (go_at_call 35; (with_reducible refine (OP.out _).mono ?_); rintro e q2 ⟨rfl, k1⟩; have K2 : Hid (Kpt w q2) := ktr K1.out k1; have B := Lib.hid (B.out.kpt k1); have R := Lib.hid (R.out.kpt k1); have b0 : World.cell? q2 ⟨w.heap.size, 0, none⟩ = some (.int .i64 i) := B.out.cell 0; have b1 : World.cell? q2 ⟨w.heap.size, 1, none⟩ = some (.int .i64 f) := B.out.cell 1; have b2 : World.cell? q2 ⟨w.heap.size, 2, none⟩ = some (.int .i64 t) := B.out.cell 2; have b3 : World.cell? q2 ⟨w.heap.size, 3, none⟩ = some (.int .i64 c) := B.out.cell 3; have b4 : World.cell? q2 ⟨w.heap.size, 4, none⟩ = some (.int .i64 p) := B.out.cell 4; have b5 : World.cell? q2 ⟨w.heap.size, 5, none⟩ = some (.int .i64 d) := B.out.cell 5; have b6 : World.cell? q2 ⟨w.heap.size, 6, none⟩ = some (.int .i64 u) := B.out.cell 6; have b7 : World.cell? q2 ⟨w.heap.size, 7, none⟩ = some (.int .i64 x) := B.out.cell 7; have b8 : World.cell? q2 ⟨w.heap.size, 8, none⟩ = some (.int .i64 b) := B.out.cell 8; have b9 : World.cell? q2 ⟨w.heap.size, 9, none⟩ = some (.int .i64 y) := B.out.cell 9; clear k1)
    | (go_at_call 35; (with_reducible refine (OP.out _).mono ?_); rintro e q3 ⟨rfl, k1⟩; have K3 : Hid (Kpt w q3) := ktr K2.out k1; have B := Lib.hid (B.out.kpt k1); have R := Lib.hid (R.out.kpt k1); have b0 : World.cell? q3 ⟨w.heap.size, 0, none⟩ = some (.int .i64 i) := B.out.cell 0; have b1 : World.cell? q3 ⟨w.heap.size, 1, none⟩ = some (.int .i64 f) := B.out.cell 1; have b2 : World.cell? q3 ⟨w.heap.size, 2, none⟩ = some (.int .i64 t) := B.out.cell 2; have b3 : World.cell? q3 ⟨w.heap.size, 3, none⟩ = some (.int .i64 c) := B.out.cell 3; have b4 : World.cell? q3 ⟨w.heap.size, 4, none⟩ = some (.int .i64 p) := B.out.cell 4; have b5 : World.cell? q3 ⟨w.heap.size, 5, none⟩ = some (.int .i64 d) := B.out.cell 5; have b6 : World.cell? q3 ⟨w.heap.size, 6, none⟩ = some (.int .i64 u) := B.out.cell 6; have b7 : World.cell? q3 ⟨w.heap.size, 7, none⟩ = some (.int .i64 x) := B.out.cell 7; have b8 : World.cell? q3 ⟨w.heap.size, 8, none⟩ = some (.int .i64 b) := B.out.cell 8; have b9 : World.cell? q3 ⟨w.heap.size, 9, none⟩ = some (.int .i64 y) := B.out.cell 9; have ck : World.cell? q3 ⟨w.heap.size, 7, none⟩ = some (.int .i64 x) := B.out.cell 7; have fk := B.out.frozen 7; have KS : Hid (Kpt w (q3.setCell ⟨w.heap.size, 7, none⟩ (.int .i64 (x + n)))) := Kpt.setCell K3.out (Nat.le_refl _) _; have B : Hid (Blk (q3.setCell ⟨w.heap.size, 7, none⟩ (.int .i64 (x + n))) w.heap.size #[.int .i64 i, .int .i64 f, .int .i64 t, .int .i64 c, .int .i64 p, .int .i64 d, .int .i64 u, .int .i64 (x + n), .int .i64 b, .int .i64 y] 42) := B.out.put 7 _; have R := Lib.hid (R.out.away (p := ⟨w.heap.size, 7, none⟩) (by simp) (.int .i64 (x + n))); clear k1)
    | (go_at_call 54; (with_reducible refine (rbt_any _ _ _ _ Y _).mono ?_); rintro e w9 ⟨rfl, rfl⟩)
    | (refine wp_storeF rfl (.tmp 6) (.tmp 49) rfl (w.heap.size + 1) _ _ rfl rfl R.out rfl rfl (by simp [Value.oneCell']) ?_; intro w9 r9 k9 _; have R9 := Lib.hid r9; have K9 := Lib.hid (k9 _ _ KS.out (by omega)); clear r9 k9))
  exact bodyPost_ret (v := .tuple #[.agg #[.int .i64 i, .int .i64 f, .int .i64 t, .int .i64 c, .int .i64 p, .int .i64 d, .int .i64 u, .int .i64 (x + n), .int .i64 b, .int .i64 y], .int .i64 0]) (results_F2 Tryz.results64 _ _ _ _ _ rfl rfl R9.out rfl) rfl ⟨rfl, K9.out⟩
end Go.Proofs.YthaahebggboliaaGreat
namespace Go.Proofs.YthaahebggboliaaGreat
open Go.RowKit
set_option linter.unusedVariables false
set_option maxHeartbeats 2000000 in
theorem rff_run (v : Value) (fs : List (List Int)) (id : Int) (w : World) (hr : ReadsF w v fs) :
    Calls Tryz.prog 63 #[v, .int .i64 id] w fun e w' => e = .returned (.int .i64 (idxF id fs 0)) ∧ Kpt w w' := by
  obtain ⟨a, cap, rfl, hm, -, hc⟩ := hr
  unfold maxLen at hm
  have HC := Lib.hid hc
  have DR := Lib.hid (fun k (h : k < fs.length) => drop_at h)
  have HX : Hid (idxF id fs 0 = idxF id (fs.drop 0) 0) := rfl
  have DA : Hid (fs.drop fs.length = []) := List.drop_length
  obtain ⟨n, hn⟩ : ∃ n, n = fs.length := ⟨_, rfl⟩
  rw [← hn] at HC hm DR DA ⊢
  clear hc hn
  go_enter Tryz.func63, Tryz.ntmps63
  go_wp2
  go_loopw [5] (fun ii wr => ∃ k : Nat, k ≤ n ∧ ii = .int .i64 (k : Int) ∧ Hid (idxF id fs 0 = idxF id (fs.drop k) k) ∧ Hid (Kpt w wr)) (fun ii _ => n - (intOf ii).toNat)
  case atStart => exact ⟨0, Nat.zero_le _, rfl, HX.out, Kpt.refl _⟩
  case round =>
    obtain ⟨k, hk, rfl, HE, HK⟩ := hrel
    by_cases hlt : k < n
    · obtain ⟨g, off, rfl, hfl⟩ := HC.out k hlt
      have hf := hfl.kpt HK.out
      have dr := DR.out k hlt
      have he : idxF id fs 0 = (if (fs.getD k []).getD 0 0 = id then (k : Int) else idxF id (fs.drop (k + 1)) (k + 1)) := HE.out.trans (by rw [dr]; rfl)
      have c0 : wr.cell? ⟨g, off + k * 10, none⟩ = _ := hf 0 (by omega)
      generalize (fs.getD k []).getD 0 0 = i at *
      by_cases h1 : i = id
      · have z1 : (i == id) = true := beq_iff_eq.2 h1
        rw [if_pos h1] at he
        have HE2 := Lib.hid he
        clear he dr hf hfl HE h1
        go_wp2
        go_ret
        exact ⟨ret_int HE2.out.symm, HK.out⟩
      · have z1 : (i == id) = false := beq_eq_false_iff_ne.2 h1
        rw [if_neg h1] at he
        have HE2 := Lib.hid he
        clear he dr hf hfl HE h1
        go_wp2
        go_roundw
        case rel => exact ⟨k + 1, by omega, by go_num, HE2.out, HK.out⟩
        case measure => simp [intOf]; omega
    · obtain rfl : k = n := by omega
      rw [DA.out] at HE
      go_wp2
      go_ret
      exact ⟨ret_int HE.out.symm, HK.out⟩
theorem mem_ids {fs : List (List Int)} {k : Nat} (hk : k ≤ fs.length) {id : Int} : id ∈ idsOf (fs.take k) ↔ ∃ j, j < k ∧ (fs.getD j []).getD 0 0 = id := by
  unfold idsOf
  rw [List.mem_map]
  constructor
  · rintro ⟨l, hl, rfl⟩
    obtain ⟨j, hj, rfl⟩ := List.mem_iff_getElem.1 hl
    rw [List.length_take] at hj
    refine ⟨j, by omega, ?_⟩
    rw [List.getElem_take, List.getD_eq_getElem?_getD (l := fs), List.getElem?_eq_getElem (by omega)]; rfl
  · rintro ⟨j, hj, rfl⟩
    refine ⟨fs[j]'(by omega), ?_, ?_⟩
    · exact List.mem_iff_getElem.2 ⟨j, by rw [List.length_take]; omega, by rw [List.getElem_take]⟩
    · rw [List.getD_eq_getElem?_getD (l := fs), List.getElem?_eq_getElem (by omega)]; rfl
set_option maxRecDepth 100000 in
set_option maxHeartbeats 4000000 in
theorem rfcs_run (v : Value) (fs : List (List Int)) (w : World) (hr : ReadsF w v fs) :
    Calls Tryz.prog 58 #[v] w fun e w' => e = .returned (.int .i64 (checksE fs)) ∧ Kpt w w' := by
  obtain ⟨a, cap, rfl, hm, -, hc⟩ := hr
  unfold maxLen at hm
  have HC := Lib.hid hc
  obtain ⟨n, hn⟩ : ∃ n, n = fs.length := ⟨_, rfl⟩
  by_cases h60 : 60 < fs.length
  · have HX : Hid (checksE fs = 2) := by unfold Hid checksE; rw [if_pos h60]
    rw [← hn] at h60 HC hm ⊢
    have y1 : decide ((60 : Int) < (n : Int)) = true := decide_eq_true (by omega)
    have y2 : (60 : Int) < (n : Int) := by omega
    clear hc hn
    go_enter Tryz.func58, Tryz.ntmps58
    go_wp2
    go_ret
    exact ⟨ret_int HX.out.symm, Kpt.refl _⟩
  have HX : Hid (checksE fs = idsE (idsOf (fs.take 0)) (fs.drop 0)) := by unfold Hid checksE; rw [if_neg h60]; rfl
  have DR := Lib.hid (fun k (h : k < fs.length) => drop_at h)
  have IS := Lib.hid (fun k (h : k < fs.length) => idsOf_s h)
  have MI := Lib.hid (fun k (h : k ≤ fs.length) id => mem_ids (fs := fs) h (id := id))
  have DA : Hid (fs.drop n = []) := by unfold Hid; rw [hn, List.drop_length]
  rw [← hn] at h60 HC hm DR IS MI ⊢
  have y1 : decide ((60 : Int) < (n : Int)) = false := decide_eq_false (by omega)
  have y2 : ¬ (60 : Int) < (n : Int) := by omega
  clear hc hn
  go_enter Tryz.func58, Tryz.ntmps58
  go_wp2
  go_loopw [3, 4, 5] (fun ii _ _ wr => ∃ k : Nat, k ≤ n ∧ ii = .int .i64 (k : Int) ∧ Hid (checksE fs = idsE (idsOf (fs.take k)) (fs.drop k)) ∧ Hid (Kpt w wr)) (fun ii _ _ _ => n - (intOf ii).toNat)
  case atStart => exact ⟨0, Nat.zero_le _, rfl, HX.out, Kpt.refl _⟩
  case round =>
    obtain ⟨k, hk, rfl, HE, HK⟩ := hrel
    by_cases hlt : k < n
    · obtain ⟨g, off, rfl, hfl⟩ := HC.out k hlt
      have HQ : Hid (∀ j, j < n → FlAt w g (off + j * 10) (fs.getD j [])) := fun j hj => by
        obtain ⟨b', off', e, h'⟩ := HC.out j hj
        simp only [Option.some.injEq, Addr.mk.injEq] at e
        obtain ⟨rfl, rfl, -⟩ := e
        exact h'
      have hf := hfl.kpt HK.out
      have dr := DR.out k hlt
      have is' := IS.out k hlt
      have mi := MI.out k (by omega) ((fs.getD k []).getD 0 0)
      have he := HE.out
      rw [dr] at he
      unfold idsE failEL at he
      have H0 : Hid (FlAt w g (off + k * 10) (fs.getD k [])) := hfl
      clear hfl HE
      obtain ⟨ID, hID⟩ : ∃ ID, ID = (fs.getD k []).getD 0 0 := ⟨_, rfl⟩
      have d0 : Hid (w.cell? ⟨g, off + k * 10, none⟩ = some (.int .i64 ID)) := by rw [hID]; exact H0.out 0 (by omega)
      clear H0
      rw [← hID] at he mi is'
      rw [is'.symm] at he
      have CK := Lib.hid (fun w' => rfc_run ID ((fs.getD k []).getD 1 0) ((fs.getD k []).getD 2 0) ((fs.getD k []).getD 3 0) ((fs.getD k []).getD 4 0) ((fs.getD k []).getD 5 0) ((fs.getD k []).getD 6 0) ((fs.getD k []).getD 7 0) ((fs.getD k []).getD 8 0) ((fs.getD k []).getD 9 0) w')
      have c0 : wr.cell? ⟨g, off + k * 10, none⟩ = _ := hf 0 (by omega)
      have c1 : wr.cell? ⟨g, off + k * 10 + 1, none⟩ = _ := hf 1 (by omega)
      have c2 : wr.cell? ⟨g, off + k * 10 + 2, none⟩ = _ := hf 2 (by omega)
      have c3 : wr.cell? ⟨g, off + k * 10 + 3, none⟩ = _ := hf 3 (by omega)
      have c4 : wr.cell? ⟨g, off + k * 10 + 4, none⟩ = _ := hf 4 (by omega)
      have c5 : wr.cell? ⟨g, off + k * 10 + 5, none⟩ = _ := hf 5 (by omega)
      have c6 : wr.cell? ⟨g, off + k * 10 + 6, none⟩ = _ := hf 6 (by omega)
      have c7 : wr.cell? ⟨g, off + k * 10 + 7, none⟩ = _ := hf 7 (by omega)
      have c8 : wr.cell? ⟨g, off + k * 10 + 8, none⟩ = _ := hf 8 (by omega)
      have c9 : wr.cell? ⟨g, off + k * 10 + 9, none⟩ = _ := hf 9 (by omega)
      rw [← hID] at c0
      clear hID hf dr is'
      generalize (fs.getD k []).getD 1 0 = f at *
      generalize (fs.getD k []).getD 2 0 = t at *
      generalize (fs.getD k []).getD 3 0 = c at *
      generalize (fs.getD k []).getD 4 0 = p at *
      generalize (fs.getD k []).getD 5 0 = d at *
      generalize (fs.getD k []).getD 6 0 = u at *
      generalize (fs.getD k []).getD 7 0 = x at *
      generalize (fs.getD k []).getD 8 0 = b at *
      generalize (fs.getD k []).getD 9 0 = y at *
      generalize failE ID f t c p d u x b y = E at *
      by_cases h1 : E = 0
      · have z1 : (E != 0) = false := by rw [h1]; rfl
        rw [if_neg (by omega)] at he
        have HE1 := Lib.hid he
        have HMI := Lib.hid mi
        clear he h1 mi
        go_wp2_with (go_at_call 98; (with_reducible refine (CK.out _).mono ?_); rintro e w1 ⟨rfl, k1⟩; have K1 := Lib.hid (ktr HK.out k1); clear k1)
        clear c0 c1 c2 c3 c4 c5 c6 c7 c8 c9
        go_loopw [5] (fun jj wr => ∃ j : Nat, j ≤ k ∧ jj = .int .i64 (j : Int) ∧ Hid (∀ j', j' < j → (fs.getD j' []).getD 0 0 ≠ ID) ∧ Hid (Kpt w wr)) (fun jj _ => k - (intOf jj).toNat)
        case atStart => exact ⟨0, Nat.zero_le _, rfl, (fun j' h => absurd h (Nat.not_lt_zero _)), K1.out⟩
        case round =>
          obtain ⟨j, hj, rfl, HN, HK2⟩ := hrel
          by_cases hlt2 : j < k
          · have d1 := HK2.out.cell d0.out
            have d2 : World.cell? _ ⟨g, off + j * 10, none⟩ = _ := ((HQ.out j (by omega)).kpt HK2.out) 0 (by omega)
            have HM2 : Hid ((fs.getD j []).getD 0 0 = ID → ID ∈ idsOf (fs.take k)) := fun e => HMI.out.2 ⟨j, hlt2, e⟩
            have HN2 : Hid ((fs.getD j []).getD 0 0 ≠ ID → ∀ j', j' < j + 1 → (fs.getD j' []).getD 0 0 ≠ ID) := fun e j' hj' => by
              rcases Nat.lt_or_ge j' j with q | q
              · exact HN.out j' q
              · obtain rfl : j' = j := by omega
                exact e
            generalize (fs.getD j []).getD 0 0 = id2 at *
            have jn : (j : Int) < (n : Int) := by omega
            have kn : (k : Int) < (n : Int) := by omega
            by_cases h2 : id2 = ID
            · have z2 : (id2 == ID) = true := beq_iff_eq.2 h2
              have HR : Hid (checksE fs = 6) := by
                have := HE1.out; rw [if_pos (HM2.out h2)] at this; exact this
              clear h2
              go_wp2
              go_quiet (fail)
              go_wp2
              go_ret
              exact ⟨ret_int HR.out.symm, HK2.out.drewN _⟩
            · have z2 : (id2 == ID) = false := beq_eq_false_iff_ne.2 h2
              have HN3 := Lib.hid (HN2.out h2)
              clear h2
              go_wp2
              go_quiet (fail)
              go_wp2
              go_roundw
              case rel => exact ⟨j + 1, by omega, by go_num, HN3.out, HK2.out.drewN _⟩
              case measure => simp [intOf]; omega
          · obtain rfl : j = k := by omega
            have HR : Hid (checksE fs = idsE (idsOf (fs.take (j + 1))) (fs.drop (j + 1))) := by
              have := HE1.out
              rw [if_neg (fun hm => by obtain ⟨j', h1, h2⟩ := HMI.out.1 hm; exact HN.out j' h1 h2)] at this
              exact this
            go_wp2
            go_roundw
            case rel => exact ⟨j + 1, by omega, by go_num, HR.out, HK2.out⟩
            case measure => simp [intOf]; omega
      · have z1 : (E != 0) = true := bne_iff_ne.2 h1
        rw [if_pos h1] at he
        have HE1 := Lib.hid he
        clear he h1 mi
        go_wp2_with (go_at_call 98; (with_reducible refine (CK.out _).mono ?_); rintro e w1 ⟨rfl, k1⟩; have K1 := Lib.hid (ktr HK.out k1); clear k1)
        go_ret
        exact ⟨ret_int HE1.out.symm, K1.out⟩
    · obtain rfl : k = n := by omega
      rw [DA.out] at HE
      go_wp2
      go_ret
      exact ⟨ret_int HE.out.symm, HK.out⟩
end Go.Proofs.YthaahebggboliaaGreat
namespace Go.Proofs.YthaahebggboliaaGreat
open Go.RowKit
set_option linter.unusedVariables false
end Go.Proofs.YthaahebggboliaaGreat
namespace Go.Proofs.YthaahebggboliaaGreat
open Go.RowKit
set_option linter.unusedVariables false
end Go.Proofs.YthaahebggboliaaGreat
namespace Go.Proofs.YthaahebggboliaaGreat
open Go.RowKit
set_option linter.unusedVariables false
theorem rbtw_t (n l h : Int) (w : World) (h1 : l ≤ n) (h2 : n ≤ h) :
    Calls Tryz.prog 54 #[.int .i64 n, .int .i64 l, .int .i64 h] w fun e w' => e = .returned (.bool true) ∧ w = w' := by
  go_enter Tryz.func54, Tryz.ntmps54
  go_wp2
  go_ret
  exact ⟨rfl, rfl⟩
theorem rbtw_f (n l h : Int) (w : World) (h1 : n < l ∨ h < n) :
    Calls Tryz.prog 54 #[.int .i64 n, .int .i64 l, .int .i64 h] w fun e w' => e = .returned (.bool false) ∧ w = w' := by
  by_cases h2 : n < l
  · clear h1
    go_enter Tryz.func54, Tryz.ntmps54
    go_wp2
    go_ret
    exact ⟨rfl, rfl⟩
  · have h3 : decide (n ≤ h) = false := decide_eq_false (by omega)
    clear h1
    go_enter Tryz.func54, Tryz.ntmps54
    go_wp2
    go_ret
    exact ⟨rfl, rfl⟩
theorem rck_ok (a : Int) (w : World) (h : amtB a = true) :
    Calls Tryz.prog 73 #[.int .i64 a] w fun e w' => e = .returned (.int .i64 0) ∧ w = w' := by
  have h1 := amt_t h
  go_enter Tryz.func73, Tryz.ntmps73
  go_wp2_with (go_at_call 54; (with_reducible refine (rbtw_t _ _ _ _ (by omega) (by omega)).mono ?_); rintro e w' ⟨rfl, rfl⟩)
  go_ret
  exact ⟨rfl, rfl⟩
theorem rck_no (a : Int) (w : World) (h : amtB a = false) :
    Calls Tryz.prog 73 #[.int .i64 a] w fun e w' => e = .returned (.int .i64 3) ∧ w = w' := by
  have h1 := amt_f h
  go_enter Tryz.func73, Tryz.ntmps73
  go_wp2_with (go_at_call 54; (with_reducible refine (rbtw_f _ _ _ _ (by omega)).mono ?_); rintro e w' ⟨rfl, rfl⟩)
  go_ret
  exact ⟨rfl, rfl⟩
end Go.Proofs.YthaahebggboliaaGreat
namespace Go.Proofs.YthaahebggboliaaGreat
open Go.RowKit
set_option linter.unusedVariables false
def posL (zs : List Int) : List Int := zs.filter fun z => decide (0 ≤ z)
def negL (zs : List Int) : List Int := zs.filter fun z => decide (z < 0)
theorem part_sum (zs : List Int) : (posL zs).sum + (negL zs).sum = zs.sum := by
  induction zs with
  | nil => rfl
  | cons z l ih =>
    unfold posL negL at *
    rw [List.filter_cons, List.filter_cons, List.sum_cons]
    by_cases h : 0 ≤ z
    · rw [if_pos (by simpa using h), if_neg (by simpa using h), List.sum_cons]; omega
    · rw [if_neg (by simpa using h), if_pos (by simp; omega), List.sum_cons]; omega
theorem pos_more {zs : List Int} {k : Nat} (hk : k < zs.length) (h : 0 ≤ zs.getD k 0) : posL (zs.take (k + 1)) = posL (zs.take k) ++ [zs.getD k 0] ∧ negL (zs.take (k + 1)) = negL (zs.take k) := by
  unfold posL negL
  rw [List.getD_eq_getElem?_getD, List.getElem?_eq_getElem hk] at *
  simp only [Option.getD_some] at *
  rw [List.take_succ_eq_append_getElem hk, List.filter_append, List.filter_append, List.filter_cons_of_pos (by simpa using h), List.filter_cons_of_neg (by simpa using h)]
  simp
theorem neg_more {zs : List Int} {k : Nat} (hk : k < zs.length) (h : zs.getD k 0 < 0) : negL (zs.take (k + 1)) = negL (zs.take k) ++ [zs.getD k 0] ∧ posL (zs.take (k + 1)) = posL (zs.take k) := by
  unfold posL negL
  rw [List.getD_eq_getElem?_getD, List.getElem?_eq_getElem hk] at *
  simp only [Option.getD_some] at *
  rw [List.take_succ_eq_append_getElem hk, List.filter_append, List.filter_append, List.filter_cons_of_pos (by simpa using h), List.filter_cons_of_neg (by simp; omega)]
  simp
theorem part_len (zs : List Int) (k : Nat) : (posL (zs.take k)).length ≤ zs.length ∧ (negL (zs.take k)).length ≤ zs.length := by
  have h1 := List.length_filter_le (fun z : Int => decide (0 ≤ z)) (zs.take k)
  have h2 := List.length_filter_le (fun z : Int => decide (z < 0)) (zs.take k)
  rw [List.length_take] at h1 h2
  unfold posL negL
  omega
/-- so far: what is added, what is left above nought, what is left below -/
structure Halves (T S : Int) (M L : List Int) : Prop where
  all : S + M.sum + L.sum = T
  up : ∀ z ∈ M, 0 ≤ z ∧ z ≤ 1152921504606846976
  dn : ∀ z ∈ L, -1152921504606846976 ≤ z ∧ z < 0
  lo : -2305843009213693952 ≤ S
  hi : S ≤ 2305843009213693952
theorem halves_start {zs : List Int} (ha : ∀ z ∈ zs, amtB z = true) : Halves zs.sum 0 (posL zs) (negL zs) := by
  refine ⟨by rw [Int.zero_add, part_sum], fun z hz => ?_, fun z hz => ?_, by decide, by decide⟩
  · obtain ⟨h1, h2⟩ := List.mem_filter.1 hz
    exact ⟨by simpa using h2, (amt_t (ha z h1)).2⟩
  · obtain ⟨h1, h2⟩ := List.mem_filter.1 hz
    exact ⟨(amt_t (ha z h1)).1, by simpa using h2⟩
theorem sum_up {M : List Int} (h : ∀ z ∈ M, 0 ≤ z ∧ z ≤ 1152921504606846976) : 0 ≤ M.sum := by
  induction M with
  | nil => exact Int.le_refl _
  | cons z l ih => have := ih fun x hx => h x (by simp [hx]); have := h z (by simp); rw [List.sum_cons]; omega
theorem sum_dn {M : List Int} (h : ∀ z ∈ M, -1152921504606846976 ≤ z ∧ z < 0) : M.sum ≤ 0 := by
  induction M with
  | nil => exact Int.le_refl _
  | cons z l ih => have := ih fun x hx => h x (by simp [hx]); have := h z (by simp); rw [List.sum_cons]; omega
/-- one more from above: it stays within, or it is no amount at all -/
theorem halves_up {T S z : Int} {M L : List Int} (h : Halves T S (z :: M) L) (hc : L = [] ∨ S ≤ 0) : (-2305843009213693952 ≤ S + z) ∧ ((S + z ≤ 2305843009213693952 ∧ Halves T (S + z) M L) ∨ (2305843009213693952 < S + z ∧ amtB T = false)) := by
  have hz := h.up z (by simp)
  have ha := h.all
  rw [List.sum_cons] at ha
  have hl := h.lo
  refine ⟨by omega, ?_⟩
  by_cases q : S + z ≤ 2305843009213693952
  · exact .inl ⟨q, by omega, fun x hx => h.up x (by simp [hx]), h.dn, by omega, q⟩
  · rcases hc with rfl | hc
    · have := sum_up fun x hx => h.up x (List.mem_cons_of_mem z hx)
      simp at ha
      exact .inr ⟨by omega, amt_no (by omega)⟩
    · omega
theorem halves_dn {T S z : Int} {M L : List Int} (h : Halves T S M (z :: L)) (hc : M = [] ∨ 0 < S) : (S + z ≤ 2305843009213693952) ∧ ((-2305843009213693952 ≤ S + z ∧ Halves T (S + z) M L) ∨ (S + z < -2305843009213693952 ∧ amtB T = false)) := by
  have hz := h.dn z (by simp)
  have ha := h.all
  rw [List.sum_cons] at ha
  have hl := h.hi
  refine ⟨by omega, ?_⟩
  by_cases q : -2305843009213693952 ≤ S + z
  · exact .inl ⟨q, by omega, h.up, fun x hx => h.dn x (by simp [hx]), q, by omega⟩
  · rcases hc with rfl | hc
    · have := sum_dn fun x hx => h.dn x (List.mem_cons_of_mem z hx)
      simp at ha
      exact .inr ⟨by omega, amt_no (by omega)⟩
    · omega
theorem halves_end {T S : Int} (h : Halves T S [] []) : S = T := by have := h.all; simpa using this
/-- a slice that is long enough, and reads as a list -/
def RdsN (w : World) (v : Value) (zs : List Int) : Prop := ∃ (a : Option Addr) (cap : Nat), v = .slice a zs.length cap ∧ zs.length ≤ cap ∧ cap ≤ maxLen ∧ Reads w v zs
theorem RdsN.kpt {w w' : World} {v : Value} {zs : List Int} (h : RdsN w v zs) (g : Kpt w w') : RdsN w' v zs := by
  obtain ⟨a, c, e, hc, hm, hr⟩ := h
  exact ⟨a, c, e, hc, hm, hr.kpt g⟩
theorem Owns.rdsN {w : World} {base : Nat} {v : Value} {zs : List Int} (h : Owns w base v zs) : RdsN w v zs := by
  obtain ⟨a, cap, hv, hr⟩ := h.reads
  refine ⟨a, cap, hv, ?_, ?_, hr⟩
  all_goals
    rcases h.2 with ⟨e, hn⟩ | ⟨k, cap', cur, e, hk, hh, hn, hm, _⟩
    · rw [hv] at e; injection e with _ _ e; omega
    · rw [hv] at e; injection e with _ _ e; omega
theorem RdsN.slot {w : World} {v : Value} {zs : List Int} (h : RdsN w v zs) : ∃ (a : Option Addr) (n cap : Nat), v = .slice a n cap ∧ Hid (n = zs.length) ∧ n ≤ 9223372036854775807 := by
  obtain ⟨a, cap, rfl, h1, h2, hr⟩ := h
  exact ⟨a, _, cap, rfl, rfl, by unfold maxLen at h2; omega⟩
theorem RdsN.parts {w : World} {v : Value} {z : Int} {zs : List Int} (h : RdsN w v (z :: zs)) : ∃ (b off n cap : Nat), v = .slice (some ⟨b, off, none⟩) n cap ∧ Hid (n = zs.length + 1) ∧ 0 < n ∧ n ≤ cap ∧ n ≤ 9223372036854775807 ∧ cap ≤ 9223372036854775807 ∧ w.cell? ⟨b, off, none⟩ = some (.int .i64 z) ∧ (cap = 1 → n = 1 ∧ Hid (zs = [])) ∧ (cap ≠ 1 → Hid (RdsN w (.slice (some ⟨b, off + 1, none⟩) (n - 1) (cap - 1)) zs)) := by
  obtain ⟨a, cap, rfl, hcap, hcm, hr⟩ := h
  have hl := hr.len
  unfold maxLen at hl hcm
  rcases hr.cell with ⟨e, _⟩ | ⟨_, b, off, cap', e, hc⟩
  · cases e
  · injection e with e1 e2 e3
    subst e1; subst e3
    have hl' : zs.length + 1 ≤ cap := hcap
    refine ⟨b, off, zs.length + 1, cap, rfl, rfl, by omega, by omega, by simp at hl; omega, by omega, hc 0 (by simp), fun e => ⟨by omega, List.eq_nil_of_length_eq_zero (by omega)⟩, fun e => ?_⟩
    refine ⟨_, cap - 1, rfl, by omega, by unfold maxLen; omega, ?_⟩
    by_cases hz : zs = []
    · subst hz; exact reads_nil _ _ _
    · have : 0 < zs.length := List.length_pos_iff.2 hz
      refine reads_mk rfl (by unfold maxLen; simp at hl; omega) fun j hj => ?_
      have := hc (j + 1) (by simpa using hj)
      rw [show off + 1 + j = off + (j + 1) by omega]
      simpa using this
theorem RdsN.empty {w : World} {v : Value} (h : RdsN w v []) : ∃ (a : Option Addr) (cap : Nat), v = .slice a 0 cap := by
  obtain ⟨a, cap, rfl, _⟩ := h
  exact ⟨a, cap, rfl⟩
theorem RdsN.cut {w : World} {a : Option Addr} {n cap : Nat} {M : List Int} (h : RdsN w (.slice a n cap) M) (h0 : n ≠ 0) : ∃ (b off : Nat) (z : Int) (M' : List Int), a = some ⟨b, off, none⟩ ∧ Hid (M = z :: M') ∧ n ≤ cap ∧ cap ≤ 9223372036854775807 ∧ w.cell? ⟨b, off, none⟩ = some (.int .i64 z) ∧ (cap = 1 → n = 1 ∧ Hid (M' = [])) ∧ (cap ≠ 1 → Hid (RdsN w (.slice (some ⟨b, off + 1, none⟩) (n - 1) (cap - 1)) M')) := by
  cases M with
  | nil =>
    obtain ⟨a', c', e⟩ := h.empty
    injection e with _ e _
    exact absurd e h0
  | cons z M' =>
    obtain ⟨b, off, n', cap', e, h1, h2, h3, h4, h5, h6, h7, h8⟩ := h.parts
    injection e with e1 e2 e3
    subst e1; subst e2; subst e3
    exact ⟨b, off, z, M', rfl, rfl, h3, h5, h6, h7, h8⟩
theorem RdsN.nil {w : World} {a : Option Addr} {n cap : Nat} {M : List Int} (h : RdsN w (.slice a n cap) M) (h0 : n = 0) : M = [] := by
  obtain ⟨a', c', e, _⟩ := h
  injection e with _ e _
  exact List.eq_nil_of_length_eq_zero (by omega)
theorem rdsN_nil (w : World) (a : Option Addr) (cap : Nat) (h : cap ≤ 9223372036854775807) : RdsN w (.slice a 0 cap) [] := ⟨a, cap, rfl, Nat.zero_le _, by unfold maxLen; omega, reads_nil _ _ _⟩
/-- what SumOf answers -/
def RSumRes (w : World) (S : Int) (e : Ending) (w' : World) : Prop :=
  Kpt w w' ∧ ((amtB S = true ∧ e = .returned (.tuple #[.int .i64 S, .bool true])) ∨ (amtB S = false ∧ ∃ r : Int, e = .returned (.tuple #[.int .i64 r, .bool false])))
end Go.Proofs.YthaahebggboliaaGreat
namespace Go.Proofs.YthaahebggboliaaGreat
open Go.RowKit
set_option linter.unusedVariables false
def sliceLen : Value → Nat
  | .slice _ n _ => n
  | _ => 0
def Fork (w w' : World) (m l : Value) (M L : List Int) : Prop := Owns w' w.heap.size m M ∧ Owns w' w.heap.size l L ∧ Apart m l ∧ Apart l m
set_option maxRecDepth 100000 in
set_option maxHeartbeats 2000000 in
theorem sumOf_any (v : Value) (zs : List Int) (w : World) (hr : Reads w v zs) (hm : zs.length ≤ 1000) (ha : ∀ z ∈ zs, amtB z = true) :
    Calls Tryz.prog 30 #[v] w (RSumRes w zs.sum) := by
  have HC : Hid (∀ k, k < zs.length → ∃ b off, v = .slice (some ⟨b, off, none⟩) zs.length (match v with | .slice _ _ c => c | _ => 0) ∧ w.cell? ⟨b, off + k, none⟩ = some (.int .i64 (zs.getD k 0))) := by
    intro k hk
    rcases hr.cell with ⟨rfl, _⟩ | ⟨_, b, off, cap, rfl, hc⟩
    · simp at hk
    · exact ⟨b, off, rfl, hc k hk⟩
  obtain ⟨a, cap, rfl, -⟩ := id hr
  simp only at HC
  have HS := Lib.hid (halves_start ha)
  have PL := Lib.hid (part_len zs)
  obtain ⟨T, hT⟩ : ∃ T, T = zs.sum := ⟨_, rfl⟩
  rw [← hT] at HS ⊢
  clear hr ha hT
  go_enter Tryz.func30, Tryz.ntmps30
  go_wp2
  go_loopw [4, 5, 6] (fun m l i wr => ∃ k : Nat, k ≤ zs.length ∧ i = .int .i64 k ∧ Hid (Fork w wr m l (posL (zs.take k)) (negL (zs.take k))) ∧ Hid (Kpt w wr)) (fun _ _ i _ => zs.length - (intOf i).toNat)
  case atStart => exact ⟨0, Nat.zero_le _, rfl, ⟨Owns.nil _ _, Owns.nil _ _, .inl rfl, .inl rfl⟩, Kpt.refl _⟩
  case round =>
    obtain ⟨k, hk, rfl, HF, HK⟩ := hrel
    by_cases hlt : k < zs.length
    · obtain ⟨b, off, e, hc⟩ := HC.out k hlt
      injection e with e1 _ _
      subst e1
      have c0 := HK.out.cell hc
      have hp := Lib.hid (pos_more hlt)
      have hn := Lib.hid (neg_more hlt)
      have hl := Lib.hid (PL.out k)
      clear hc
      generalize zs.getD k 0 = z at c0 hp hn
      have k0 : (0 : Int) ≤ (k : Int) := by omega
      have k1 : (k : Int) < (zs.length : Int) := by omega
      by_cases hz : 0 ≤ z
      · have HX := Lib.hid (hp.out hz)
        clear hp hn
        go_wp2_with (at_builtin; refine wp_append2 rfl (.tmp 19) (.tmp 24) rfl w.heap.size _ _ z wr rfl HF.out.1 rfl (by have := hl.out.1; omega) HK.out.size _ _ HF.out.2.1 HF.out.2.2.2 ?_; intro v' w' h1 h2 h3 h4 h5; have HF' : Hid (Fork w w' v' u5 (posL (zs.take (k + 1))) (negL (zs.take (k + 1)))) := (by unfold Hid; rw [HX.out.1, HX.out.2]; exact ⟨h1, h3, h5, h4⟩); have HK' : Hid (Kpt w w') := Below.trans HK.out h2; clear h1 h2 h3 h4 h5)
        go_roundw
        case rel => exact ⟨k + 1, by omega, by go_num, HF'.out, HK'.out⟩
        case measure => simp [intOf]; omega
      · have hz' : decide (0 ≤ z) = false := decide_eq_false hz
        have HX := Lib.hid (hn.out (by omega))
        clear hp hn
        go_wp2_with (at_builtin; refine wp_append2 rfl (.tmp 26) (.tmp 31) rfl w.heap.size _ _ z wr rfl HF.out.2.1 rfl (by have := hl.out.2; omega) HK.out.size _ _ HF.out.1 HF.out.2.2.1 ?_; intro v' w' h1 h2 h3 h4 h5; have HF' : Hid (Fork w w' u4 v' (posL (zs.take (k + 1))) (negL (zs.take (k + 1)))) := (by unfold Hid; rw [HX.out.1, HX.out.2]; exact ⟨h3, h1, h4, h5⟩); have HK' : Hid (Kpt w w') := Below.trans HK.out h2; clear h1 h2 h3 h4 h5)
        go_roundw
        case rel => exact ⟨k + 1, by omega, by go_num, HF'.out, HK'.out⟩
        case measure => simp [intOf]; omega
    · have e : zs.take k = zs := List.take_of_length_le (by omega)
      rw [e] at HF
      clear e
      have HM := Lib.hid HF.out.1.rdsN
      have HL := Lib.hid HF.out.2.1.rdsN
      have PN : Hid ((posL zs).length + (negL zs).length ≤ 2000) := by
        have h := PL.out zs.length
        rw [List.take_length] at h
        unfold Hid
        omega
      clear HF PL
      go_wp2
      go_loopw [4, 5, 7] (fun m l s wr2 => ∃ (M L : List Int) (S : Int), s = .int .i64 S ∧ Hid (RdsN wr2 m M) ∧ Hid (RdsN wr2 l L) ∧ Hid (Halves T S M L) ∧ M.length + L.length ≤ 2000 ∧ Hid (Kpt w wr2)) (fun m l _ _ => sliceLen m + sliceLen l)
      case atStart => exact ⟨_, _, 0, rfl, HM.out, HL.out, HS.out, PN.out, HK.out⟩
      case round =>
        obtain ⟨M, L, S, rfl, HM, HL, HS2, hn, HK2⟩ := hrel
        obtain ⟨am, nm, cm, rfl, EM, bm⟩ := HM.out.slot
        obtain ⟨al, nl, cl, rfl, EL, bl⟩ := HL.out.slot
        have bsum : nm + nl ≤ 2000 := by rw [EM.out, EL.out]; exact hn
        have HN := Lib.hid hn
        clear hn
        have bs := HS2.out.lo; have bs' := HS2.out.hi
        by_cases h0 : nm = 0
        · have HM0 := Lib.hid (HM.out.nil h0)
          subst h0
          by_cases h1 : nl = 0
          · have HL0 := Lib.hid (HL.out.nil h1)
            subst h1
            have HT : Hid (S = T) := halves_end (by have := HS2.out; rw [HM0.out, HL0.out] at this; exact this)
            have e := HT.out
            clear HT
            subst e
            cases hA : amtB S with
            | true =>
              have AC := Lib.hid (fun W => rck_ok S W hA)
              have HA := Lib.hid hA
              clear hA
              go_wp2_with (go_at_call 73; (with_reducible refine (AC.out _).mono ?_); rintro e w' ⟨rfl, rfl⟩)
              go_ret2
              exact ⟨HK2.out, .inl ⟨HA.out, rfl⟩⟩
            | false =>
              have AC := Lib.hid (fun W => rck_no S W hA)
              have HA := Lib.hid hA
              clear hA
              go_wp2_with (go_at_call 73; (with_reducible refine (AC.out _).mono ?_); rintro e w' ⟨rfl, rfl⟩)
              go_ret2
              exact ⟨HK2.out, .inr ⟨HA.out, S, rfl⟩⟩
          · have n1 : ((nl : Int) == 0) = false := beq_eq_false_iff_ne.2 (by omega)
            have n2 : 0 < nl := by omega
            obtain ⟨b, off, z, R, rfl, HE, hcap, hcm, c0, hone, hmore⟩ := HL.out.cut h1
            have HU := halves_dn (z := z) (L := R) (by rw [← HE.out]; exact HS2.out) (.inl HM0.out)
            have hz := HS2.out.dn z (by rw [HE.out]; simp)
            by_cases c1 : cl = 1
            · obtain ⟨u1, hmz⟩ := hone c1
              subst c1; subst u1
              clear hone hmore
              obtain ⟨q1, ⟨q2, HH⟩ | ⟨q2, HB⟩⟩ := HU
              · have HH2 := Lib.hid HH; clear HH
                go_wp2_with (go_at_call 54; (with_reducible refine (rbtw_t _ _ _ _ (by omega) (by omega)).mono ?_); rintro e w' ⟨rfl, rfl⟩)
                go_roundw
                case rel => exact ⟨M, R, S + z, rfl, HM.out, (by unfold Hid; rw [hmz.out]; exact rdsN_nil _ _ _ (by omega)), HH2.out, (by have := HN.out; rw [HE.out] at this; simp at this; omega), HK2.out⟩
                case measure => first | (simp [sliceLen]; done) | (simp [sliceLen]; omega)
              · have HB2 := Lib.hid HB; clear HB
                go_wp2_with (go_at_call 54; (with_reducible refine (rbtw_f _ _ _ _ (by omega)).mono ?_); rintro e w' ⟨rfl, rfl⟩)
                all_goals
                  go_ret2
                  exact ⟨HK2.out, .inr ⟨HB2.out, 0, rfl⟩⟩
            · have HMo := hmore c1
              clear hone hmore
              obtain ⟨q1, ⟨q2, HH⟩ | ⟨q2, HB⟩⟩ := HU
              · have HH2 := Lib.hid HH; clear HH
                go_wp2_with (go_at_call 54; (with_reducible refine (rbtw_t _ _ _ _ (by omega) (by omega)).mono ?_); rintro e w' ⟨rfl, rfl⟩)
                go_roundw
                case rel => exact ⟨M, R, S + z, rfl, HM.out, HMo.out, HH2.out, (by have := HN.out; rw [HE.out] at this; simp at this; omega), HK2.out⟩
                case measure => first | (simp [sliceLen]; done) | (simp [sliceLen]; omega)
              · have HB2 := Lib.hid HB; clear HB
                go_wp2_with (go_at_call 54; (with_reducible refine (rbtw_f _ _ _ _ (by omega)).mono ?_); rintro e w' ⟨rfl, rfl⟩)
                all_goals
                  go_ret2
                  exact ⟨HK2.out, .inr ⟨HB2.out, 0, rfl⟩⟩
        · by_cases h1 : nl = 0
          · have HL0 := Lib.hid (HL.out.nil h1)
            subst h1
            have n2 : 0 < nm := by omega
            obtain ⟨b, off, z, R, rfl, HE, hcap, hcm, c0, hone, hmore⟩ := HM.out.cut h0
            have HU := halves_up (z := z) (M := R) (by rw [← HE.out]; exact HS2.out) (.inl HL0.out)
            have hz := HS2.out.up z (by rw [HE.out]; simp)
            by_cases c1 : cm = 1
            · obtain ⟨u1, hmz⟩ := hone c1
              subst c1; subst u1
              clear hone hmore
              obtain ⟨q1, ⟨q2, HH⟩ | ⟨q2, HB⟩⟩ := HU
              · have HH2 := Lib.hid HH; clear HH
                go_wp2_with (go_at_call 54; (with_reducible refine (rbtw_t _ _ _ _ (by omega) (by omega)).mono ?_); rintro e w' ⟨rfl, rfl⟩)
                go_roundw
                case rel => exact ⟨R, L, S + z, rfl, (by unfold Hid; rw [hmz.out]; exact rdsN_nil _ _ _ (by omega)), HL.out, HH2.out, (by have := HN.out; rw [HE.out] at this; simp at this; omega), HK2.out⟩
                case measure => first | (simp [sliceLen]; done) | (simp [sliceLen]; omega)
              · have HB2 := Lib.hid HB; clear HB
                go_wp2_with (go_at_call 54; (with_reducible refine (rbtw_f _ _ _ _ (by omega)).mono ?_); rintro e w' ⟨rfl, rfl⟩)
                all_goals
                  go_ret2
                  exact ⟨HK2.out, .inr ⟨HB2.out, 0, rfl⟩⟩
            · have HMo := hmore c1
              clear hone hmore
              obtain ⟨q1, ⟨q2, HH⟩ | ⟨q2, HB⟩⟩ := HU
              · have HH2 := Lib.hid HH; clear HH
                go_wp2_with (go_at_call 54; (with_reducible refine (rbtw_t _ _ _ _ (by omega) (by omega)).mono ?_); rintro e w' ⟨rfl, rfl⟩)
                go_roundw
                case rel => exact ⟨R, L, S + z, rfl, HMo.out, HL.out, HH2.out, (by have := HN.out; rw [HE.out] at this; simp at this; omega), HK2.out⟩
                case measure => first | (simp [sliceLen]; done) | (simp [sliceLen]; omega)
              · have HB2 := Lib.hid HB; clear HB
                go_wp2_with (go_at_call 54; (with_reducible refine (rbtw_f _ _ _ _ (by omega)).mono ?_); rintro e w' ⟨rfl, rfl⟩)
                all_goals
                  go_ret2
                  exact ⟨HK2.out, .inr ⟨HB2.out, 0, rfl⟩⟩
          · have n1 : ((nl : Int) == 0) = false := beq_eq_false_iff_ne.2 (by omega)
            have n2 : 0 < nm := by omega
            have n3 : 0 < nl := by omega
            have n4 : (0 : Int) < (nm : Int) := by omega
            by_cases hs : S ≤ 0
            · obtain ⟨b, off, z, R, rfl, HE, hcap, hcm, c0, hone, hmore⟩ := HM.out.cut h0
              have HU := halves_up (z := z) (M := R) (by rw [← HE.out]; exact HS2.out) (.inr hs)
              have hz := HS2.out.up z (by rw [HE.out]; simp)
              by_cases c1 : cm = 1
              · obtain ⟨u1, hmz⟩ := hone c1
                subst c1; subst u1
                clear hone hmore
                obtain ⟨q1, ⟨q2, HH⟩ | ⟨q2, HB⟩⟩ := HU
                · have HH2 := Lib.hid HH; clear HH
                  go_wp2_with (go_at_call 54; (with_reducible refine (rbtw_t _ _ _ _ (by omega) (by omega)).mono ?_); rintro e w' ⟨rfl, rfl⟩)
                  go_roundw
                  case rel => exact ⟨R, L, S + z, rfl, (by unfold Hid; rw [hmz.out]; exact rdsN_nil _ _ _ (by omega)), HL.out, HH2.out, (by have := HN.out; rw [HE.out] at this; simp at this; omega), HK2.out⟩
                  case measure => first | (simp [sliceLen]; done) | (simp [sliceLen]; omega)
                · have HB2 := Lib.hid HB; clear HB
                  go_wp2_with (go_at_call 54; (with_reducible refine (rbtw_f _ _ _ _ (by omega)).mono ?_); rintro e w' ⟨rfl, rfl⟩)
                  all_goals
                    go_ret2
                    exact ⟨HK2.out, .inr ⟨HB2.out, 0, rfl⟩⟩
              · have HMo := hmore c1
                clear hone hmore
                obtain ⟨q1, ⟨q2, HH⟩ | ⟨q2, HB⟩⟩ := HU
                · have HH2 := Lib.hid HH; clear HH
                  go_wp2_with (go_at_call 54; (with_reducible refine (rbtw_t _ _ _ _ (by omega) (by omega)).mono ?_); rintro e w' ⟨rfl, rfl⟩)
                  go_roundw
                  case rel => exact ⟨R, L, S + z, rfl, HMo.out, HL.out, HH2.out, (by have := HN.out; rw [HE.out] at this; simp at this; omega), HK2.out⟩
                  case measure => first | (simp [sliceLen]; done) | (simp [sliceLen]; omega)
                · have HB2 := Lib.hid HB; clear HB
                  go_wp2_with (go_at_call 54; (with_reducible refine (rbtw_f _ _ _ _ (by omega)).mono ?_); rintro e w' ⟨rfl, rfl⟩)
                  all_goals
                    go_ret2
                    exact ⟨HK2.out, .inr ⟨HB2.out, 0, rfl⟩⟩
            · have hs' : decide (S ≤ 0) = false := decide_eq_false hs
              obtain ⟨b, off, z, R, rfl, HE, hcap, hcm, c0, hone, hmore⟩ := HL.out.cut h1
              have HU := halves_dn (z := z) (L := R) (by rw [← HE.out]; exact HS2.out) (.inr (by omega))
              have hz := HS2.out.dn z (by rw [HE.out]; simp)
              by_cases c1 : cl = 1
              · obtain ⟨u1, hmz⟩ := hone c1
                subst c1; subst u1
                clear hone hmore
                obtain ⟨q1, ⟨q2, HH⟩ | ⟨q2, HB⟩⟩ := HU
                · have HH2 := Lib.hid HH; clear HH
                  go_wp2_with (go_at_call 54; (with_reducible refine (rbtw_t _ _ _ _ (by omega) (by omega)).mono ?_); rintro e w' ⟨rfl, rfl⟩)
                  go_roundw
                  case rel => exact ⟨M, R, S + z, rfl, HM.out, (by unfold Hid; rw [hmz.out]; exact rdsN_nil _ _ _ (by omega)), HH2.out, (by have := HN.out; rw [HE.out] at this; simp at this; omega), HK2.out⟩
                  case measure => first | (simp [sliceLen]; done) | (simp [sliceLen]; omega)
                · have HB2 := Lib.hid HB; clear HB
                  go_wp2_with (go_at_call 54; (with_reducible refine (rbtw_f _ _ _ _ (by omega)).mono ?_); rintro e w' ⟨rfl, rfl⟩)
                  all_goals
                    go_ret2
                    exact ⟨HK2.out, .inr ⟨HB2.out, 0, rfl⟩⟩
              · have HMo := hmore c1
                clear hone hmore
                obtain ⟨q1, ⟨q2, HH⟩ | ⟨q2, HB⟩⟩ := HU
                · have HH2 := Lib.hid HH; clear HH
                  go_wp2_with (go_at_call 54; (with_reducible refine (rbtw_t _ _ _ _ (by omega) (by omega)).mono ?_); rintro e w' ⟨rfl, rfl⟩)
                  go_roundw
                  case rel => exact ⟨M, R, S + z, rfl, HM.out, HMo.out, HH2.out, (by have := HN.out; rw [HE.out] at this; simp at this; omega), HK2.out⟩
                  case measure => first | (simp [sliceLen]; done) | (simp [sliceLen]; omega)
                · have HB2 := Lib.hid HB; clear HB
                  go_wp2_with (go_at_call 54; (with_reducible refine (rbtw_f _ _ _ _ (by omega)).mono ?_); rintro e w' ⟨rfl, rfl⟩)
                  all_goals
                    go_ret2
                    exact ⟨HK2.out, .inr ⟨HB2.out, 0, rfl⟩⟩
end Go.Proofs.YthaahebggboliaaGreat
namespace Go.Proofs.YthaahebggboliaaGreat
open Go.RowKit
set_option linter.unusedVariables false
/-- the amounts of a place -/
def amtsOf (l : List (Int × Int × Int)) (a u : Int) : List Int := (l.filter fun p => decide (p.1 = a) && decide (p.2.1 = u)).map fun p => p.2.2
theorem take_one {l : List (Int × Int × Int)} {k : Nat} (hk : k < l.length) : l.take (k + 1) = l.take k ++ [l.getD k default] := by
  rw [List.take_succ_eq_append_getElem hk, List.getD_eq_getElem?_getD, List.getElem?_eq_getElem hk]; rfl
theorem amtsOf_more {l : List (Int × Int × Int)} {k : Nat} (hk : k < l.length) (a u : Int) (h1 : (l.getD k default).1 = a) (h2 : (l.getD k default).2.1 = u) : amtsOf (l.take (k + 1)) a u = amtsOf (l.take k) a u ++ [(l.getD k default).2.2] := by
  unfold amtsOf
  have e := take_one hk
  generalize l.getD k default = q at *
  rw [e, List.filter_append, List.filter_cons_of_pos (by simp [h1, h2]), List.map_append]
  rfl
theorem amtsOf_stay {l : List (Int × Int × Int)} {k : Nat} (hk : k < l.length) (a u : Int) (h : ¬ ((l.getD k default).1 = a ∧ (l.getD k default).2.1 = u)) : amtsOf (l.take (k + 1)) a u = amtsOf (l.take k) a u := by
  unfold amtsOf
  have e := take_one hk
  generalize l.getD k default = q at *
  rw [e, List.filter_append, List.filter_cons_of_neg (by simpa using h)]
  simp
theorem amtsOf_sum (l : List (Int × Int × Int)) (a u : Int) : (amtsOf l a u).sum = sumAt l a u := by
  induction l with
  | nil => rfl
  | cons p l ih =>
    unfold amtsOf at *
    rw [List.filter_cons, sumAt]
    by_cases h : p.1 = a ∧ p.2.1 = u
    · rw [if_pos (by simp [h.1, h.2]), if_pos h, List.map_cons, List.sum_cons]; omega
    · rw [if_neg (by simpa using h), if_neg h]; omega
theorem amtsOf_len (l : List (Int × Int × Int)) (k : Nat) (a u : Int) : (amtsOf (l.take k) a u).length ≤ l.length := by
  unfold amtsOf
  rw [List.length_map]
  have h := List.length_filter_le (fun p : Int × Int × Int => decide (p.1 = a) && decide (p.2.1 = u)) (l.take k)
  rw [List.length_take] at h
  omega
theorem amtsOf_amt {l : List (Int × Int × Int)} (h : ∀ p ∈ l, ptB p = true) (a u : Int) : ∀ z ∈ amtsOf l a u, amtB z = true := fun z hz => by
  obtain ⟨p, hp, rfl⟩ := List.mem_map.1 hz
  have := pt_t (h p (List.mem_filter.1 hp).1)
  exact amt_mk (by omega) (by omega)
theorem Owns.kpt {w w' : World} {base : Nat} {v : Value} {zs : List Int} (h : Owns w base v zs) (g : Kpt w w') : Owns w' base v zs := h.below g (Nat.le_refl _)
theorem Row.kpt {w w' : World} {g : Nat} {zs : List Int} (h : Row w g zs) (k : Kpt w w') : Row w' g zs := h.below k h.lt
/-- a sum that is an amount, of a list of the call's own -/
theorem sumOf_own {w : World} {base : Nat} (v : Value) (zs : List Int) (S : Int) (h : Owns w base v zs) (hm : zs.length ≤ 1000) (ha : ∀ z ∈ zs, amtB z = true) (hS : zs.sum = S) (hA : amtB S = true) :
    Calls Tryz.prog 30 #[v] w fun e w' => e = .returned (.tuple #[.int .i64 S, .bool true]) ∧ Kpt w w' := by
  obtain ⟨_, _, _, hr⟩ := h.reads
  refine (sumOf_any v zs w hr hm ha).mono ?_
  rintro e w' ⟨hk, ⟨_, rfl⟩ | ⟨hx, _⟩⟩
  · exact ⟨by rw [hS], hk⟩
  · rw [hS, hA] at hx; cases hx
end Go.Proofs.YthaahebggboliaaGreat
namespace Go.Proofs.YthaahebggboliaaGreat
open Go.RowKit
set_option linter.unusedVariables false
set_option maxHeartbeats 1000000 in
theorem right_t (a u n : Int) (w : World) (h : ptB (a, u, n) = true) : Calls Tryz.prog 107 #[.agg #[.int .i64 a, .int .i64 u, .int .i64 n]] w fun e w' => e = .returned (.bool true) ∧ Kpt w w' := by
  have hb := pt_t h
  simp only at hb
  obtain ⟨a0, a1, u0, u1, hz, n0, n1⟩ := hb
  have z : (n != 0) = true := bne_iff_ne.2 hz
  have AC := Lib.hid (fun W => rck_ok n W (amt_mk n0 n1))
  clear h hz
  go_enter Tryz.func107, Tryz.ntmps107
  go_wp2_with (first
    | (go_at_call 54; (with_reducible refine (rbtw_t _ _ _ _ (by omega) (by omega)).mono ?_); rintro e w' ⟨rfl, rfl⟩)
    | (go_at_call 73; (with_reducible refine (AC.out _).mono ?_); rintro e w' ⟨rfl, rfl⟩))
  go_ret
  exact ⟨rfl, (Kpt.refl _).alloc _⟩
set_option maxHeartbeats 1000000 in
theorem right_f (a u n : Int) (w : World) (h : ptB (a, u, n) = false) : Calls Tryz.prog 107 #[.agg #[.int .i64 a, .int .i64 u, .int .i64 n]] w fun e w' => e = .returned (.bool false) ∧ Kpt w w' := by
  have hb := pt_f h
  simp only at hb
  clear h
  by_cases ha : 0 ≤ a ∧ a ≤ 100
  · obtain ⟨a0, a1⟩ := ha
    by_cases hu : 0 ≤ u ∧ u ≤ 20
    · obtain ⟨u0, u1⟩ := hu
      cases hn : amtB n with
      | true =>
        have AC := Lib.hid (fun W => rck_ok n W hn)
        have hn' := amt_t hn
        have hz : n = 0 := by omega
        subst hz
        clear hb hn hn'
        go_enter Tryz.func107, Tryz.ntmps107
        go_wp2_with (first
          | (go_at_call 54; (with_reducible refine (rbtw_t _ _ _ _ (by omega) (by omega)).mono ?_); rintro e w' ⟨rfl, rfl⟩)
          | (go_at_call 73; (with_reducible refine (AC.out _).mono ?_); rintro e w' ⟨rfl, rfl⟩))
        go_ret
        exact ⟨rfl, (Kpt.refl _).alloc _⟩
      | false =>
        have AC := Lib.hid (fun W => rck_no n W hn)
        clear hb hn
        go_enter Tryz.func107, Tryz.ntmps107
        go_wp2_with (first
          | (go_at_call 54; (with_reducible refine (rbtw_t _ _ _ _ (by omega) (by omega)).mono ?_); rintro e w' ⟨rfl, rfl⟩)
          | (go_at_call 73; (with_reducible refine (AC.out _).mono ?_); rintro e w' ⟨rfl, rfl⟩))
        go_ret
        exact ⟨rfl, (Kpt.refl _).alloc _⟩
    · have HU := Lib.hid (fun W => rbtw_f u 0 20 W (by omega))
      have HA := Lib.hid (fun W => rbtw_t a 0 100 W a0 a1)
      clear hb hu
      go_enter Tryz.func107, Tryz.ntmps107
      go_wp2_with (first
        | (go_at_call 54; (with_reducible refine (HA.out _).mono ?_); rintro e w' ⟨rfl, rfl⟩)
        | (go_at_call 54; (with_reducible refine (HU.out _).mono ?_); rintro e w' ⟨rfl, rfl⟩))
      go_ret
      exact ⟨rfl, (Kpt.refl _).alloc _⟩
  · have HA := Lib.hid (fun W => rbtw_f a 0 100 W (by omega))
    clear hb ha
    go_enter Tryz.func107, Tryz.ntmps107
    go_wp2_with (go_at_call 54; (with_reducible refine (HA.out _).mono ?_); rintro e w' ⟨rfl, rfl⟩)
    go_ret
    exact ⟨rfl, (Kpt.refl _).alloc _⟩
/-- the amounts of a unit -/
def unitA (l : List (Int × Int × Int)) (u : Int) : List Int := (l.filter fun p => decide (p.2.1 = u)).map fun p => p.2.2
theorem unitA_more {l : List (Int × Int × Int)} {k : Nat} (hk : k < l.length) (u : Int) (h : (l.getD k default).2.1 = u) : unitA (l.take (k + 1)) u = unitA (l.take k) u ++ [(l.getD k default).2.2] := by
  unfold unitA
  have e := take_one hk
  generalize l.getD k default = q at *
  rw [e, List.filter_append, List.filter_cons_of_pos (by simp [h]), List.map_append]
  rfl
theorem unitA_stay {l : List (Int × Int × Int)} {k : Nat} (hk : k < l.length) (u : Int) (h : ¬ (l.getD k default).2.1 = u) : unitA (l.take (k + 1)) u = unitA (l.take k) u := by
  unfold unitA
  have e := take_one hk
  generalize l.getD k default = q at *
  rw [e, List.filter_append, List.filter_cons_of_neg (by simpa using h)]
  simp
theorem unitA_sum (l : List (Int × Int × Int)) (u : Nat) : (unitA l (u : Int)).sum = unitS l u := by
  induction l with
  | nil => rfl
  | cons p l ih =>
    unfold unitA at *
    rw [List.filter_cons, unitS]
    by_cases h : p.2.1 = (u : Int)
    · rw [if_pos (by simp [h]), if_pos h, List.map_cons, List.sum_cons]; omega
    · rw [if_neg (by simpa using h), if_neg h]; omega
theorem unitA_len (l : List (Int × Int × Int)) (k : Nat) (u : Int) : (unitA (l.take k) u).length ≤ l.length := by
  unfold unitA
  rw [List.length_map]
  have h := List.length_filter_le (fun p : Int × Int × Int => decide (p.2.1 = u)) (l.take k)
  rw [List.length_take] at h
  omega
theorem unitA_amt {l : List (Int × Int × Int)} (h : ∀ p ∈ l, ptB p = true) (u : Int) : ∀ z ∈ unitA l u, amtB z = true := fun z hz => by
  obtain ⟨p, hp, rfl⟩ := List.mem_map.1 hz
  have := pt_t (h p (List.mem_filter.1 hp).1)
  exact amt_mk (by omega) (by omega)
set_option maxRecDepth 100000 in
set_option maxHeartbeats 2000000 in
theorem amts_unit (v : Value) (l : List (Int × Int × Int)) (u : Int) (w : World) (hr : ReadsP w v l) (hn : l.length ≤ 900) : Calls Tryz.prog 96 #[v, .int .i64 (-1), .int .i64 u] w fun e w' => ∃ v', e = .returned v' ∧ Hid (Owns w' w.heap.size v' (unitA l u)) ∧ Hid (Kpt w w') := by
  obtain ⟨a, cap, rfl, -, -, -, hc⟩ := hr
  have HC := Lib.hid hc
  clear hc
  go_enter Tryz.func96, Tryz.ntmps96
  go_wp2
  go_loopw [7, 8] (fun m i wr => ∃ k : Nat, k ≤ l.length ∧ i = .int .i64 k ∧ Hid (Owns wr w.heap.size m (unitA (l.take k) u)) ∧ Hid (Kpt w wr)) (fun _ i _ => l.length - (intOf i).toNat)
  case atStart => exact ⟨0, Nat.zero_le _, rfl, Owns.nil _ _, Kpt.refl _⟩
  case round =>
    obtain ⟨k, hk, rfl, HO, HJ⟩ := hrel
    by_cases hlt : k < l.length
    · obtain ⟨x, off, rfl, c0, c1, c2⟩ := HC.out k hlt
      have d0 := HJ.out.cell c0
      have d1 := HJ.out.cell c1
      have d2 := HJ.out.cell c2
      have hm := Lib.hid (unitA_more hlt u)
      have hs := Lib.hid (unitA_stay hlt u)
      have hn2 := unitA_len l k u
      clear c0 c1 c2
      generalize l.getD k default = p at d0 d1 d2 hm hs
      obtain ⟨A, U, N⟩ := p
      simp only at d0 d1 d2
      by_cases h2 : U = u
      · have HM := Lib.hid (hm.out h2)
        have q2 : (U == u) = true := beq_iff_eq.2 h2
        clear hm hs h2
        go_wp2_with (at_builtin; refine wp_append1 rfl (.tmp 35) (.tmp 41) rfl w.heap.size _ _ N wr rfl HO.out rfl (by omega) HJ.out.size ?_; intro v' w' h1 h2; have HO' : Hid (Owns w' w.heap.size v' (unitA (l.take (k + 1)) u)) := (by unfold Hid; rw [HM.out]; exact h1); have HJ' : Hid (Kpt w w') := Below.trans HJ.out h2; clear h1 h2)
        go_roundw
        case rel => exact ⟨k + 1, by omega, by go_num, HO'.out, HJ'.out⟩
        case measure => simp [intOf]; omega
      · have HM := Lib.hid (hs.out h2)
        have q2 : (U == u) = false := beq_eq_false_iff_ne.2 h2
        have HO' : Hid (Owns wr w.heap.size u7 (unitA (l.take (k + 1)) u)) := by unfold Hid; rw [HM.out]; exact HO.out
        clear hm hs h2
        go_wp2
        go_roundw
        case rel => exact ⟨k + 1, by omega, by go_num, HO'.out, HJ.out⟩
        case measure => simp [intOf]; omega
    · have e : l.take k = l := List.take_of_length_le (by omega)
      rw [e] at HO
      clear e
      go_wp2
      go_ret
      exact ⟨_, rfl, HO.out, HJ.out⟩
set_option maxRecDepth 100000 in
set_option maxHeartbeats 2000000 in
theorem amts_place (v : Value) (l : List (Int × Int × Int)) (a' u : Int) (w : World) (hr : ReadsP w v l) (hn : l.length ≤ 900) (ha : 0 ≤ a') : Calls Tryz.prog 96 #[v, .int .i64 a', .int .i64 u] w fun e w' => ∃ v', e = .returned v' ∧ Hid (Owns w' w.heap.size v' (amtsOf l a' u)) ∧ Hid (Kpt w w') := by
  obtain ⟨a, cap, rfl, -, -, -, hc⟩ := hr
  have HC := Lib.hid hc
  have ha' : decide (a' < 0) = false := decide_eq_false (by omega)
  clear hc
  go_enter Tryz.func96, Tryz.ntmps96
  go_wp2
  go_loopw [7, 8] (fun m i wr => ∃ k : Nat, k ≤ l.length ∧ i = .int .i64 k ∧ Hid (Owns wr w.heap.size m (amtsOf (l.take k) a' u)) ∧ Hid (Kpt w wr)) (fun _ i _ => l.length - (intOf i).toNat)
  case atStart => exact ⟨0, Nat.zero_le _, rfl, Owns.nil _ _, Kpt.refl _⟩
  case round =>
    obtain ⟨k, hk, rfl, HO, HJ⟩ := hrel
    by_cases hlt : k < l.length
    · obtain ⟨x, off, rfl, c0, c1, c2⟩ := HC.out k hlt
      have d0 := HJ.out.cell c0
      have d1 := HJ.out.cell c1
      have d2 := HJ.out.cell c2
      have hm := Lib.hid (amtsOf_more hlt a' u)
      have hs := Lib.hid (amtsOf_stay hlt a' u)
      have hn2 := amtsOf_len l k a' u
      clear c0 c1 c2
      generalize l.getD k default = p at d0 d1 d2 hm hs
      obtain ⟨A, U, N⟩ := p
      simp only at d0 d1 d2
      by_cases h2 : U = u
      · have q2 : (U == u) = true := beq_iff_eq.2 h2
        by_cases h1 : A = a'
        · have HM := Lib.hid (hm.out h1 h2)
          have q1 : (A == a') = true := beq_iff_eq.2 h1
          clear hm hs h1 h2
          go_wp2_with (at_builtin; refine wp_append1 rfl (.tmp 35) (.tmp 41) rfl w.heap.size _ _ N wr rfl HO.out rfl (by omega) HJ.out.size ?_; intro v' w' h1 h2; have HO' : Hid (Owns w' w.heap.size v' (amtsOf (l.take (k + 1)) a' u)) := (by unfold Hid; rw [HM.out]; exact h1); have HJ' : Hid (Kpt w w') := Below.trans HJ.out h2; clear h1 h2)
          go_roundw
          case rel => exact ⟨k + 1, by omega, by go_num, HO'.out, HJ'.out⟩
          case measure => simp [intOf]; omega
        · have HM := Lib.hid (hs.out fun q => h1 q.1)
          have q1 : (A == a') = false := beq_eq_false_iff_ne.2 h1
          have HO' : Hid (Owns wr w.heap.size u7 (amtsOf (l.take (k + 1)) a' u)) := by unfold Hid; rw [HM.out]; exact HO.out
          clear hm hs h1 h2
          go_wp2
          go_roundw
          case rel => exact ⟨k + 1, by omega, by go_num, HO'.out, HJ.out⟩
          case measure => simp [intOf]; omega
      · have HM := Lib.hid (hs.out fun q => h2 q.2)
        have q2 : (U == u) = false := beq_eq_false_iff_ne.2 h2
        have HO' : Hid (Owns wr w.heap.size u7 (amtsOf (l.take (k + 1)) a' u)) := by unfold Hid; rw [HM.out]; exact HO.out
        clear hm hs h2
        go_wp2
        go_roundw
        case rel => exact ⟨k + 1, by omega, by go_num, HO'.out, HJ.out⟩
        case measure => simp [intOf]; omega
    · have e : l.take k = l := List.take_of_length_le (by omega)
      rw [e] at HO
      clear e
      go_wp2
      go_ret
      exact ⟨_, rfl, HO.out, HJ.out⟩
/-- what SumOf answers of a list of the call's own -/
theorem sumOf_any2 {w : World} {base : Nat} (v : Value) (zs : List Int) (S : Int) (h : Owns w base v zs) (hm : zs.length ≤ 1000) (ha : ∀ z ∈ zs, amtB z = true) (hS : zs.sum = S) :
    Calls Tryz.prog 30 #[v] w (RSumRes w S) := by
  obtain ⟨_, _, _, hr⟩ := h.reads
  exact hS ▸ sumOf_any v zs w hr hm ha
theorem sumOf_no {w : World} {base : Nat} (v : Value) (zs : List Int) (S : Int) (h : Owns w base v zs) (hm : zs.length ≤ 1000) (ha : ∀ z ∈ zs, amtB z = true) (hS : zs.sum = S) (hA : amtB S = false) :
    Calls Tryz.prog 30 #[v] w fun e w' => ∃ r : Int, e = .returned (.tuple #[.int .i64 r, .bool false]) ∧ Kpt w w' := by
  refine (sumOf_any2 v zs S h hm ha hS).mono ?_
  rintro e w' ⟨hk, ⟨hx, _⟩ | ⟨_, r, rfl⟩⟩
  · rw [hA] at hx; cases hx
  · exact ⟨r, rfl, hk⟩
theorem evn_no {l : List (Int × Int × Int)} {u : Nat} (hu : u < 21) (h : unitS l u ≠ 0) : evnB l = false := by
  cases e : evnB l with
  | false => rfl
  | true => exact absurd (evn_t e u hu) h
set_option maxHeartbeats 2000000 in
theorem even_run (v : Value) (l : List (Int × Int × Int)) (w : World) (hr : ReadsP w v l) (hn : l.length ≤ 900) (hp : ∀ p ∈ l, ptB p = true) : Calls Tryz.prog 108 #[v] w fun e w' => e = .returned (.bool (evnB l)) ∧ Kpt w w' := by
  have RL := Lib.hid hr
  have HP := Lib.hid hp
  clear hr hp
  go_enter Tryz.func108, Tryz.ntmps108
  go_wp2
  go_loopw [3] (fun i wr => ∃ k : Nat, k ≤ 21 ∧ i = .int .i64 k ∧ Hid (∀ x, x < k → unitS l x = 0) ∧ Hid (Kpt w wr)) (fun i _ => 21 - (intOf i).toNat)
  case atStart => exact ⟨0, Nat.zero_le _, rfl, (fun x hx => absurd hx (Nat.not_lt_zero x)), Kpt.refl _⟩
  case round =>
    obtain ⟨k, hk, rfl, HZ, HJ⟩ := hrel
    by_cases hlt : k < 21
    · have k20 : (k : Int) ≤ 20 := by omega
      have AU := Lib.hid (fun w hr => amts_unit v l k w hr hn)
      have hl := unitA_len l l.length k
      rw [List.take_length] at hl
      by_cases hz : unitS l k = 0
      · have SO := Lib.hid (fun v' w' base (h : Owns w' base v' (unitA l k)) => sumOf_own v' (unitA l k) 0 h (by omega) (unitA_amt HP.out k) ((unitA_sum l k).trans hz) (by decide))
        have HX : Hid (∀ x, x < k + 1 → unitS l x = 0) := fun x hx => by
          rcases Nat.lt_or_ge x k with h | h
          · exact HZ.out x h
          · obtain rfl : x = k := by omega
            exact hz
        clear hz
        go_wp2_with (first
          | (go_at_call 96; (with_reducible refine (AU.out _ (RL.out.kpt HJ.out)).mono ?_); rintro e w1 ⟨v1, rfl, O1, k1⟩; have K1 := Lib.hid (ktr HJ.out k1.out); clear k1)
          | (go_at_call 30; (with_reducible refine (SO.out _ _ _ O1.out).mono ?_); rintro e w2 ⟨rfl, k2⟩; have K2 := Lib.hid (ktr K1.out k2); clear k2))
        go_roundw
        case rel => exact ⟨k + 1, by omega, by go_num, HX.out, K2.out⟩
        case measure => simp [intOf]; omega
      · have EV := Lib.hid (evn_no hlt hz)
        cases hA : amtB (unitS l k) with
        | true =>
          have SO := Lib.hid (fun v' w' base (h : Owns w' base v' (unitA l k)) => sumOf_own v' (unitA l k) _ h (by omega) (unitA_amt HP.out k) (unitA_sum l k) hA)
          have q : (unitS l k != 0) = true := bne_iff_ne.2 hz
          clear hz hA
          generalize unitS l k = S at *
          go_wp2_with (first
            | (go_at_call 96; (with_reducible refine (AU.out _ (RL.out.kpt HJ.out)).mono ?_); rintro e w1 ⟨v1, rfl, O1, k1⟩; have K1 := Lib.hid (ktr HJ.out k1.out); clear k1)
            | (go_at_call 30; (with_reducible refine (SO.out _ _ _ O1.out).mono ?_); rintro e w2 ⟨rfl, k2⟩; have K2 := Lib.hid (ktr K1.out k2); clear k2))
          go_ret
          exact ⟨by rw [EV.out]; rfl, K2.out⟩
        | false =>
          have SO := Lib.hid (fun v' w' base (h : Owns w' base v' (unitA l k)) => sumOf_no v' (unitA l k) _ h (by omega) (unitA_amt HP.out k) (unitA_sum l k) hA)
          clear hz hA
          go_wp2_with (first
            | (go_at_call 96; (with_reducible refine (AU.out _ (RL.out.kpt HJ.out)).mono ?_); rintro e w1 ⟨v1, rfl, O1, k1⟩; have K1 := Lib.hid (ktr HJ.out k1.out); clear k1)
            | (go_at_call 30; (with_reducible refine (SO.out _ _ _ O1.out).mono ?_); rintro e w2 ⟨r2, rfl, k2⟩; have K2 := Lib.hid (ktr K1.out k2); clear k2))
          go_ret
          exact ⟨by rw [EV.out]; rfl, K2.out⟩
    · obtain rfl : k = 21 := by omega
      have EV : Hid (evnB l = true) := evn_mk HZ.out
      go_wp2
      go_ret
      exact ⟨by rw [EV.out]; rfl, HJ.out⟩
end Go.Proofs.YthaahebggboliaaGreat
namespace Go.Proofs.YthaahebggboliaaGreat
open Go.RowKit
set_option linter.unusedVariables false
theorem rchk_none (a : Option Addr) (cap : Nat) (w : World) : Calls Tryz.prog 95 #[.slice a 0 cap] w fun e w' => e = .returned (.int .i64 1) ∧ Kpt w w' := by
  go_enter Tryz.func95, Tryz.ntmps95
  go_wp2
  go_ret
  exact ⟨rfl, Kpt.refl _⟩
theorem rchk_many (a : Option Addr) (n cap : Nat) (hn : 60 < n) (hb : n ≤ maxLen) (w : World) : Calls Tryz.prog 95 #[.slice a n cap] w fun e w' => e = .returned (.int .i64 2) ∧ Kpt w w' := by
  unfold maxLen at hb
  have h0 : ((n : Int) == 0) = false := beq_eq_false_iff_ne.2 (by omega)
  have h1 : (60 : Int) < (n : Int) := by omega
  go_enter Tryz.func95, Tryz.ntmps95
  go_wp2
  go_ret
  exact ⟨rfl, Kpt.refl _⟩
set_option maxHeartbeats 2000000 in
theorem rchk_some (v : Value) (l : List (Int × Int × Int)) (w : World) (hr : ReadsP w v l) (h0 : 0 < l.length) (hm : l.length ≤ 60) : Calls Tryz.prog 95 #[v] w fun e w' => e = .returned (.int .i64 (chkE l)) ∧ Kpt w w' := by
  have RL := Lib.hid hr
  obtain ⟨a, cap, rfl, -, -, -, hc⟩ := hr
  have HC := Lib.hid hc
  have n0 : ((l.length : Int) == 0) = false := beq_eq_false_iff_ne.2 (by omega)
  clear hc
  have HE : Hid (chkE l = if l.all ptB then (if evnB l then 0 else 4) else 3) := by
    unfold Hid chkE
    rw [if_neg (List.length_pos_iff.1 h0), if_neg (by omega)]
  go_enter Tryz.func95, Tryz.ntmps95
  go_wp2
  go_loopw [3] (fun i wr => ∃ k : Nat, k ≤ l.length ∧ i = .int .i64 k ∧ Hid (∀ j, j < k → ptB (l.getD j default) = true) ∧ Hid (Kpt w wr)) (fun i _ => l.length - (intOf i).toNat)
  case atStart => exact ⟨0, Nat.zero_le _, rfl, (fun x hx => absurd hx (Nat.not_lt_zero x)), Kpt.refl _⟩
  case round =>
    obtain ⟨k, hk, rfl, HZ, HJ⟩ := hrel
    by_cases hlt : k < l.length
    · obtain ⟨x, off, rfl, c0, c1, c2⟩ := HC.out k hlt
      have d0 := HJ.out.cell c0
      have d1 := HJ.out.cell c1
      have d2 := HJ.out.cell c2
      have HX : Hid (ptB (l.getD k default) = true → ∀ j, j < k + 1 → ptB (l.getD j default) = true) := fun hp j hj => by
        rcases Nat.lt_or_ge j k with h | h
        · exact HZ.out j h
        · obtain rfl : j = k := by omega
          exact hp
      have HN : Hid (ptB (l.getD k default) = false → chkE l = 3) := fun hp => by rw [HE.out, all_no hlt hp]; rfl
      clear c0 c1 c2
      generalize l.getD k default = p at d0 d1 d2 HX HN
      obtain ⟨A, U, N⟩ := p
      simp only at d0 d1 d2
      cases hB : ptB (A, U, N) with
      | true =>
        have PR := Lib.hid (fun w => right_t A U N w hB)
        have HX2 := Lib.hid (HX.out hB)
        clear hB
        go_wp2_with (go_at_call 107; (with_reducible refine (PR.out _).mono ?_); rintro e w1 ⟨rfl, k1⟩; have K1 := Lib.hid (ktr HJ.out k1); clear k1)
        go_roundw
        case rel => exact ⟨k + 1, by omega, by go_num, HX2.out, K1.out⟩
        case measure => simp [intOf]; omega
      | false =>
        have PR := Lib.hid (fun w => right_f A U N w hB)
        have HX2 := Lib.hid (HN.out hB)
        clear hB
        go_wp2_with (go_at_call 107; (with_reducible refine (PR.out _).mono ?_); rintro e w1 ⟨rfl, k1⟩; have K1 := Lib.hid (ktr HJ.out k1); clear k1)
        go_ret
        exact ⟨ret_int HX2.out.symm, K1.out⟩
    · obtain rfl : k = l.length := by omega
      have hp : ∀ p ∈ l, ptB p = true := fun p hp => by
        obtain ⟨i, hi, rfl⟩ := List.mem_iff_getElem.1 hp
        have := HZ.out i hi
        rwa [List.getD_eq_getElem?_getD, List.getElem?_eq_getElem hi] at this
      have ER := Lib.hid (fun w hr => even_run (.slice a l.length cap) l w hr (by omega) hp)
      have HF : Hid (chkE l = if evnB l then 0 else 4) := by unfold Hid; rw [HE.out, if_pos (List.all_eq_true.2 hp)]
      clear hp
      cases hE : evnB l with
      | true =>
        rw [hE] at ER
        have HG : Hid (chkE l = 0) := by unfold Hid; rw [HF.out, hE]; rfl
        clear hE
        go_wp2_with (go_at_call 108; (with_reducible refine (ER.out _ (RL.out.kpt HJ.out)).mono ?_); rintro e w1 ⟨rfl, k1⟩; have K1 := Lib.hid (ktr HJ.out k1); clear k1)
        go_ret
        exact ⟨ret_int HG.out.symm, K1.out⟩
      | false =>
        rw [hE] at ER
        have HG : Hid (chkE l = 4) := by unfold Hid; rw [HF.out, hE]; rfl
        clear hE
        go_wp2_with (go_at_call 108; (with_reducible refine (ER.out _ (RL.out.kpt HJ.out)).mono ?_); rintro e w1 ⟨rfl, k1⟩; have K1 := Lib.hid (ktr HJ.out k1); clear k1)
        go_ret
        exact ⟨ret_int HG.out.symm, K1.out⟩
theorem rchk_any (v : Value) (l : List (Int × Int × Int)) (w : World) (hr : ReadsP w v l) : Calls Tryz.prog 95 #[v] w fun e w' => e = .returned (.int .i64 (chkE l)) ∧ Kpt w w' := by
  by_cases h0 : 0 < l.length
  · by_cases hm : l.length ≤ 60
    · exact rchk_some v l w hr h0 hm
    · have hl := hr.len
      obtain ⟨a, cap, rfl, -⟩ := hr
      have e : chkE l = 2 := by unfold chkE; rw [if_neg (List.length_pos_iff.1 h0), if_pos (by omega)]
      rw [e]
      exact rchk_many a _ cap (by omega) hl w
  · obtain rfl : l = [] := List.eq_nil_of_length_eq_zero (by omega)
    obtain ⟨a, cap, rfl, -⟩ := hr
    exact rchk_none a cap w
theorem rlines_many (a : Option Addr) (n cap : Nat) (hn : 400 < n) (hb : n ≤ maxLen) (w : World) : Calls Tryz.prog 59 #[.slice a n cap] w fun e w' => e = .returned (.int .i64 2) ∧ Kpt w w' := by
  unfold maxLen at hb
  have h1 : (400 : Int) < (n : Int) := by omega
  go_enter Tryz.func59, Tryz.ntmps59
  go_wp2
  go_ret
  exact ⟨rfl, Kpt.refl _⟩
/-- the place of the line ahead -/
def ahead1 (l : List (Int × Int × Int)) : Nat → Int
  | 0 => -1
  | k + 1 => plc (l.getD k default)
theorem plc_lt {A U N A' U' N' : Int} (h : ptB (A, U, N) = true) (h' : ptB (A', U', N') = true) : plc (A, U, N) ≤ plc (A', U', N') ↔ (A < A' ∨ (A = A' ∧ U ≤ U')) := by
  have h1 := pt_t h; have h2 := pt_t h'
  unfold plc
  simp only at *
  omega
set_option maxRecDepth 100000 in
set_option maxHeartbeats 8000000 in
theorem rlines_some (v : Value) (l : List (Int × Int × Int)) (w : World) (hr : ReadsP w v l) (hm : l.length ≤ 400) : Calls Tryz.prog 59 #[v] w fun e w' => e = .returned (.int .i64 (linE l)) ∧ Kpt w w' := by
  have RL := Lib.hid hr
  obtain ⟨a, cap, rfl, -, -, -, hc⟩ := hr
  have HC := Lib.hid hc
  clear hc
  have HE : Hid (linE l = if ordE (-1) l = 0 then (if evnB l then 0 else 4) else ordE (-1) l) := by
    unfold Hid linE
    rw [if_neg (by omega)]
  go_enter Tryz.func59, Tryz.ntmps59
  go_wp2
  go_loopw [3] (fun i wr => ∃ k : Nat, k ≤ l.length ∧ i = .int .i64 k ∧ Hid (∀ j, j < k → ptB (l.getD j default) = true) ∧ Hid (ordE (-1) l = ordE (ahead1 l k) (l.drop k)) ∧ Hid (Kpt w wr)) (fun i _ => l.length - (intOf i).toNat)
  case atStart => exact ⟨0, Nat.zero_le _, rfl, (fun x hx => absurd hx (Nat.not_lt_zero x)), rfl, Kpt.refl _⟩
  case round =>
    obtain ⟨k, hk, rfl, HZ, HO, HJ⟩ := hrel
    by_cases hlt : k < l.length
    · obtain ⟨x, off, rfl, c0, c1, c2⟩ := HC.out k hlt
      have d0 := HJ.out.cell c0
      have d1 := HJ.out.cell c1
      have d2 := HJ.out.cell c2
      have hd := drop_getD hlt
      have HX : Hid (ptB (l.getD k default) = true → ∀ j, j < k + 1 → ptB (l.getD j default) = true) := fun hp j hj => by
        rcases Nat.lt_or_ge j k with h | h
        · exact HZ.out j h
        · obtain rfl : j = k := by omega
          exact hp
      have HP : Hid (ahead1 l (k + 1) = plc (l.getD k default)) := rfl
      clear c0 c1 c2
      generalize l.getD k default = p at d0 d1 d2 hd HX HP
      have HD : Hid (ordE (-1) l = ordE (ahead1 l k) (p :: l.drop (k + 1))) := by unfold Hid; rw [HO.out, hd]
      clear hd
      obtain ⟨A, U, N⟩ := p
      simp only at d0 d1 d2
      cases hB : ptB (A, U, N) with
      | false =>
        have PR := Lib.hid (fun w => right_f A U N w hB)
        have HX2 : Hid (linE l = 3) := by unfold Hid; rw [HE.out, HD.out, ord_no hB]; rfl
        clear hB
        go_wp2_with (go_at_call 107; (with_reducible refine (PR.out _).mono ?_); rintro e w1 ⟨rfl, k1⟩; have K1 := Lib.hid (ktr HJ.out k1); clear k1)
        go_ret
        exact ⟨ret_int HX2.out.symm, K1.out⟩
      | true =>
        have PR := Lib.hid (fun w => right_t A U N w hB)
        have HX2 := Lib.hid (HX.out hB)
        have HB := Lib.hid hB
        clear hB
        by_cases hk0 : k = 0
        · subst hk0
          simp only [Nat.zero_mul, Nat.add_zero] at d0 d1 d2
          have HN : Hid (ordE (-1) l = ordE (ahead1 l (0 + 1)) (l.drop (0 + 1))) := by
            unfold Hid
            rw [HD.out, HP.out]
            exact ord_ok HB.out (by have := pt_t HB.out; unfold ahead1 plc; simp only at *; omega)
          go_wp2_with (go_at_call 107; (with_reducible refine (PR.out _).mono ?_); rintro e w1 ⟨rfl, k1⟩; have K1 := Lib.hid (ktr HJ.out k1); clear k1)
          go_quiet (fail)
          go_wp2
          go_roundw
          case rel => exact ⟨1, by omega, by go_num, HX2.out, HN.out, K1.out.drewN _⟩
          case measure => simp [intOf]; omega
        · obtain ⟨m, hkm⟩ : ∃ m, k = m + 1 := ⟨k - 1, by omega⟩
          obtain ⟨x', off', e, hq⟩ := HC.out m (by omega)
          injection e with e
          injection e with e1 e2
          subst e1; subst e2
          obtain ⟨e0, e1, -⟩ := hq.kpt HJ.out
          have HQ := Lib.hid (HZ.out m (by omega))
          have HA : Hid (ahead1 l k = plc (l.getD m default)) := by unfold Hid; rw [hkm]; rfl
          generalize l.getD m default = q at e0 e1 HQ HA
          obtain ⟨A', U', N'⟩ := q
          simp only at e0 e1
          have hpl := plc_lt HB.out HQ.out
          have hw : IntKind.i64.wrap ((k : Int) - 1) = (m : Int) := by rw [IntWalk.i64_in _ (by omega)]; omega
          have kn : 0 < k := by omega
          have k0 : (0 : Int) < (k : Int) := by omega
          have k1' : (0 : Int) ≤ (k : Int) := by omega
          have k2 : (k : Int) < (l.length : Int) := by omega
          have m0 : (0 : Int) ≤ (m : Int) := by omega
          have m1 : (m : Int) < (l.length : Int) := by omega
          have HKM := Lib.hid hkm
          clear hkm hq
          by_cases h1 : A < A'
          · have HN : Hid (linE l = 4) := by unfold Hid; rw [HE.out, HD.out, HA.out, ord_st HB.out (hpl.2 (.inl h1))]; rfl
            clear hpl
            go_wp2_with (go_at_call 107; (with_reducible refine (PR.out _).mono ?_); rintro e w1 ⟨rfl, k1⟩; have K1 := Lib.hid (ktr HJ.out k1); have y0 := k1.cell d0; have y1 := k1.cell d1; have z0 := k1.cell e0; have z1 := k1.cell e1; clear k1)
            go_quiet (fail)
            go_wp2
            go_ret
            exact ⟨ret_int HN.out.symm, K1.out.drewN _⟩
          · have g1 : decide (A < A') = false := decide_eq_false h1
            by_cases h2 : A = A'
            · have g2 : (A == A') = true := beq_iff_eq.2 h2
              by_cases h3 : U ≤ U'
              · have HN : Hid (linE l = 4) := by unfold Hid; rw [HE.out, HD.out, HA.out, ord_st HB.out (hpl.2 (.inr ⟨h2, h3⟩))]; rfl
                clear hpl h2
                go_wp2_with (go_at_call 107; (with_reducible refine (PR.out _).mono ?_); rintro e w1 ⟨rfl, k1⟩; have K1 := Lib.hid (ktr HJ.out k1); have y0 := k1.cell d0; have y1 := k1.cell d1; have z0 := k1.cell e0; have z1 := k1.cell e1; clear k1)
                go_quiet (fail)
                go_wp2
                go_ret
                exact ⟨ret_int HN.out.symm, K1.out.drewN _⟩
              · have g3 : decide (U ≤ U') = false := decide_eq_false h3
                have HN : Hid (ordE (-1) l = ordE (ahead1 l (k + 1)) (l.drop (k + 1))) := by
                  unfold Hid
                  rw [HD.out, HP.out, HA.out]
                  exact ord_ok HB.out (by have := mt hpl.1 (by omega); omega)
                clear hpl h2
                go_wp2_with (go_at_call 107; (with_reducible refine (PR.out _).mono ?_); rintro e w1 ⟨rfl, k1⟩; have K1 := Lib.hid (ktr HJ.out k1); have y0 := k1.cell d0; have y1 := k1.cell d1; have z0 := k1.cell e0; have z1 := k1.cell e1; clear k1)
                go_quiet (fail)
                go_wp2
                go_roundw
                case rel => exact ⟨k + 1, by omega, by go_num, HX2.out, HN.out, K1.out.drewN _⟩
                case measure => simp [intOf]; omega
            · have g2 : (A == A') = false := beq_eq_false_iff_ne.2 h2
              have HN : Hid (ordE (-1) l = ordE (ahead1 l (k + 1)) (l.drop (k + 1))) := by
                unfold Hid
                rw [HD.out, HP.out, HA.out]
                exact ord_ok HB.out (by have := mt hpl.1 (by omega); omega)
              clear hpl h2
              go_wp2_with (go_at_call 107; (with_reducible refine (PR.out _).mono ?_); rintro e w1 ⟨rfl, k1⟩; have K1 := Lib.hid (ktr HJ.out k1); have y0 := k1.cell d0; have y1 := k1.cell d1; have z0 := k1.cell e0; have z1 := k1.cell e1; clear k1)
              go_quiet (fail)
              go_wp2
              go_roundw
              case rel => exact ⟨k + 1, by omega, by go_num, HX2.out, HN.out, K1.out.drewN _⟩
              case measure => simp [intOf]; omega
    · obtain rfl : k = l.length := by omega
      have hp : ∀ p ∈ l, ptB p = true := fun p hp => by
        obtain ⟨i, hi, rfl⟩ := List.mem_iff_getElem.1 hp
        have := HZ.out i hi
        rwa [List.getD_eq_getElem?_getD, List.getElem?_eq_getElem hi] at this
      have ER := Lib.hid (fun w hr => even_run (.slice a l.length cap) l w hr (by omega) hp)
      have HF : Hid (linE l = if evnB l then 0 else 4) := by
        unfold Hid
        rw [HE.out, if_pos]
        rw [HO.out, List.drop_eq_nil_of_le (Nat.le_refl _)]
        rfl
      clear hp
      cases hE : evnB l with
      | true =>
        rw [hE] at ER
        have HG : Hid (linE l = 0) := by unfold Hid; rw [HF.out, hE]; rfl
        clear hE
        go_wp2_with (go_at_call 108; (with_reducible refine (ER.out _ (RL.out.kpt HJ.out)).mono ?_); rintro e w1 ⟨rfl, k1⟩; have K1 := Lib.hid (ktr HJ.out k1); clear k1)
        go_ret
        exact ⟨ret_int HG.out.symm, K1.out⟩
      | false =>
        rw [hE] at ER
        have HG : Hid (linE l = 4) := by unfold Hid; rw [HF.out, hE]; rfl
        clear hE
        go_wp2_with (go_at_call 108; (with_reducible refine (ER.out _ (RL.out.kpt HJ.out)).mono ?_); rintro e w1 ⟨rfl, k1⟩; have K1 := Lib.hid (ktr HJ.out k1); clear k1)
        go_ret
        exact ⟨ret_int HG.out.symm, K1.out⟩
theorem rlines_any (v : Value) (l : List (Int × Int × Int)) (w : World) (hr : ReadsP w v l) : Calls Tryz.prog 59 #[v] w fun e w' => e = .returned (.int .i64 (linE l)) ∧ Kpt w w' := by
  by_cases hm : l.length ≤ 400
  · exact rlines_some v l w hr hm
  · have hl := hr.len
    obtain ⟨a, cap, rfl, -⟩ := hr
    have e : linE l = 2 := by unfold linE; rw [if_pos (by omega)]
    rw [e]
    exact rlines_many a _ cap (by omega) hl w
end Go.Proofs.YthaahebggboliaaGreat
namespace Go.Proofs.YthaahebggboliaaGreat
open Go.RowKit
set_option linter.unusedVariables false
theorem own_empty (w : World) (B : Nat) (h : B ≤ w.heap.size) : OwnsP (w.alloc (.cells #[] 55)) B (.slice (some ⟨w.heap.size, 0, none⟩) 0 0) [] :=
  ⟨rfl, .inr ⟨w.heap.size, 0, #[], rfl, h, Blk.made w #[] _, Nat.le_refl _, Nat.zero_le _, rfl, rfl⟩⟩
end Go.Proofs.YthaahebggboliaaGreat
namespace Go.Proofs.YthaahebggboliaaGreat
open Go.RowKit
set_option linter.unusedVariables false
/-- what stands at a place of the order of books -/
def atN (T : List (Int × Int × Int)) (n : Nat) : Int := sumAt T ((n / 21 : Nat) : Int) ((n % 21 : Nat) : Int)
/-- the lines of the first places -/
def outF (T : List (Int × Int × Int)) : Nat → List (Int × Int × Int)
  | 0 => []
  | n + 1 => if atN T n = 0 then outF T n else outF T n ++ [(((n / 21 : Nat) : Int), ((n % 21 : Nat) : Int), atN T n)]
theorem outF_len (T : List (Int × Int × Int)) (n : Nat) : (outF T n).length ≤ n := by
  induction n with
  | zero => exact Nat.le_refl _
  | succ n ih =>
    rw [outF]
    split
    · omega
    · rw [List.length_append, List.length_singleton]; omega
theorem outF_0 {T : List (Int × Int × Int)} {n : Nat} (h : atN T n = 0) : outF T (n + 1) = outF T n := by rw [outF, if_pos h]
theorem outF_1 {T : List (Int × Int × Int)} {n : Nat} (h : ¬ atN T n = 0) : outF T (n + 1) = outF T n ++ [(((n / 21 : Nat) : Int), ((n % 21 : Nat) : Int), atN T n)] := by rw [outF, if_neg h]
theorem atN_is (T : List (Int × Int × Int)) (a u : Nat) (hu : u < 21) : atN T (a * 21 + u) = sumAt T (a : Int) (u : Int) := by
  unfold atN
  rw [show (a * 21 + u) / 21 = a by omega, show (a * 21 + u) % 21 = u by omega]
theorem outF_facts {T : List (Int × Int × Int)} (n : Nat) (hn : n ≤ 2121) (ha : ∀ i, i < n → amtB (atN T i) = true) : Strict (-1) (outF T n) ∧ (∀ q ∈ outF T n, plc q < (n : Int) ∧ q.2.2 = sumAt T q.1 q.2.1) ∧ ∀ i, i < n → atN T i ≠ 0 → (((i / 21 : Nat) : Int), ((i % 21 : Nat) : Int), atN T i) ∈ outF T n := by
  induction n with
  | zero => exact ⟨trivial, by simp [outF], fun i hi => absurd hi (Nat.not_lt_zero i)⟩
  | succ n ih =>
    obtain ⟨h1, h2, h3⟩ := ih (by omega) fun i hi => ha i (by omega)
    by_cases hz : atN T n = 0
    · rw [outF_0 hz]
      refine ⟨h1, fun q hq => ⟨by have := (h2 q hq).1; omega, (h2 q hq).2⟩, fun i hi hne => ?_⟩
      rcases Nat.lt_or_ge i n with h | h
      · exact h3 i h hne
      · obtain rfl : i = n := by omega
        exact absurd hz hne
    · rw [outF_1 hz]
      have hA := amt_t (ha n (by omega))
      have hpt : ptB (((n / 21 : Nat) : Int), ((n % 21 : Nat) : Int), atN T n) = true := pt_mk ⟨by simp only; omega, by simp only; omega, by simp only; omega, by simp only; omega, hz, hA.1, hA.2⟩
      have hpl : plc (((n / 21 : Nat) : Int), ((n % 21 : Nat) : Int), atN T n) = (n : Int) := by unfold plc; simp only; omega
      refine ⟨strict_snoc h1 hpt (by rw [hpl]; omega) fun q hq => by rw [hpl]; exact (h2 q hq).1, fun q hq => ?_, fun i hi hne => ?_⟩
      · rcases List.mem_append.1 hq with h | h
        · exact ⟨by have := (h2 q h).1; omega, (h2 q h).2⟩
        · rw [List.mem_singleton.1 h, hpl]
          exact ⟨by omega, rfl⟩
      · rcases Nat.lt_or_ge i n with h | h
        · exact List.mem_append_left _ (h3 i h hne)
        · obtain rfl : i = n := by omega
          exact List.mem_append_right _ (by simp)
theorem outF_book {T : List (Int × Int × Int)} (hT : ∀ p ∈ T, ptB p = true) (ha : ∀ i, i < 2121 → amtB (atN T i) = true) : IsBook (outF T 2121) T := by
  obtain ⟨h1, h2, h3⟩ := outF_facts 2121 (Nat.le_refl _) ha
  refine isBook_mk h1 (fun p hp => (h2 p hp).2) fun q hq hne => ?_
  have hb := pt_t (hT q hq)
  obtain ⟨a, ha'⟩ : ∃ a : Nat, q.1 = (a : Int) := ⟨q.1.toNat, by omega⟩
  obtain ⟨u, hu'⟩ : ∃ u : Nat, q.2.1 = (u : Int) := ⟨q.2.1.toNat, by omega⟩
  have e := atN_is T a u (by omega)
  rw [ha', hu', ← e] at hne
  have hm := h3 (a * 21 + u) (by omega) hne
  exact ⟨_, hm, by simp only; rw [ha']; omega, by simp only; rw [hu']; omega⟩
theorem all_amt {T : List (Int × Int × Int)} (hT : ∀ p ∈ T, ptB p = true) (ha : ∀ i, i < 2121 → amtB (atN T i) = true) (a u : Int) : amtB (sumAt T a u) = true := by
  by_cases hq : ∃ q ∈ T, q.1 = a ∧ q.2.1 = u
  · obtain ⟨q, hq, rfl, rfl⟩ := hq
    have hb := pt_t (hT q hq)
    obtain ⟨a, ha'⟩ : ∃ a : Nat, q.1 = (a : Int) := ⟨q.1.toNat, by omega⟩
    obtain ⟨u, hu'⟩ : ∃ u : Nat, q.2.1 = (u : Int) := ⟨q.2.1.toNat, by omega⟩
    rw [ha', hu', ← atN_is T a u (by omega)]
    exact ha _ (by omega)
  · rw [sumAt_none fun q hq' e => hq ⟨q, hq', e⟩]; decide
theorem own_reads3 {w : World} {B : Nat} {v : Value} {b l : List (Int × Int × Int)} (h : OwnsP w B v ([] ++ b ++ l)) (hp : ∀ p ∈ b ++ l, ptB p = true) : ReadsP w v (b ++ l) := h.reads (inP_of hp)
theorem rpost_lin (v u : Value) (b l : List (Int × Int × Int)) (w : World) (hb : ReadsP w v b) (h : linE b ≠ 0) : Calls Tryz.prog 43 #[v, u] w (PostEnd w b l) := by
  have LB := Lib.hid (rlines_any v b w hb)
  have HP : Hid (PostRes b l [] (linE b)) := .inl ⟨h, rfl, rfl⟩
  have q : (linE b != 0) = true := bne_iff_ne.2 h
  have q2 : (linE b == 0) = false := beq_eq_false_iff_ne.2 h
  clear h hb
  generalize linE b = E at *
  go_enter Tryz.func43, Tryz.ntmps43
  go_wp2_with (go_at_call 59; (with_reducible refine LB.out.mono ?_); rintro e w1 ⟨rfl, k1⟩)
  go_ret2
  exact ⟨k1, [], E, _, HP.out, OwnsP.nil _ _, rfl⟩
theorem rpost_chk (v u : Value) (b l : List (Int × Int × Int)) (w : World) (hb : ReadsP w v b) (hl : ReadsP w u l) (h0 : linE b = 0) (h : chkE l ≠ 0) : Calls Tryz.prog 43 #[v, u] w (PostEnd w b l) := by
  have LB := Lib.hid (h0 ▸ rlines_any v b w hb)
  have CB := Lib.hid (fun w hl => rchk_any u l w hl)
  have RL := Lib.hid hl
  have HP : Hid (PostRes b l [] (chkE l)) := .inr (.inl ⟨h0, h, rfl, rfl⟩)
  have q : (chkE l != 0) = true := bne_iff_ne.2 h
  clear h hb hl h0
  generalize chkE l = E at *
  go_enter Tryz.func43, Tryz.ntmps43
  go_wp2_with (first
    | (go_at_call 59; (with_reducible refine LB.out.mono ?_); rintro e w1 ⟨rfl, k1⟩; have K1 := Lib.hid k1; clear k1)
    | (go_at_call 95; (with_reducible refine (CB.out _ (RL.out.kpt K1.out)).mono ?_); rintro e w2 ⟨rfl, k2⟩; have K2 := Lib.hid (ktr K1.out k2); clear k2))
  go_ret2
  exact ⟨K2.out, [], E, _, HP.out, OwnsP.nil _ _, rfl⟩
set_option maxRecDepth 100000 in
set_option maxHeartbeats 8000000 in
theorem rpost_ok (v u : Value) (b l : List (Int × Int × Int)) (w : World) (hb : ReadsP w v b) (hl : ReadsP w u l) (h0 : linE b = 0) (h1 : chkE l = 0) : Calls Tryz.prog 43 #[v, u] w (PostEnd w b l) := by
  have LB := Lib.hid (h0 ▸ rlines_any v b w hb)
  have CB := Lib.hid (fun w hl => (h1 ▸ rchk_any u l w hl : Calls Tryz.prog 95 #[u] w fun e w' => e = .returned (.int .i64 0) ∧ Kpt w w'))
  have RB := Lib.hid hb; have RL := Lib.hid hl
  have PT := Lib.hid (pts_both h0 h1)
  have lb := (lin_0 h0).1
  have ll := (chk_0 h1).2.1
  have H0 := Lib.hid h0; have H1 := Lib.hid h1
  clear hb hl h0 h1
  go_enter Tryz.func43, Tryz.ntmps43
  go_wp2_with (first
    | (go_at_call 59; (with_reducible refine LB.out.mono ?_); rintro e w1 ⟨rfl, k1⟩; have K1 := Lib.hid k1; clear k1)
    | (go_at_call 95; (with_reducible refine (CB.out _ (RL.out.kpt K1.out)).mono ?_); rintro e w2 ⟨rfl, k2⟩; have K2 := Lib.hid (ktr K1.out k2); clear k2)
    | (at_builtin; refine wp_appendP rfl (.tmp 22) (.tmp 23) rfl w2.heap.size _ _ [] b _ rfl (own_empty w2 w2.heap.size (Nat.le_refl _)) rfl ((RB.out.kpt K2.out).kpt ((Kpt.refl _).alloc _)) (by simp; omega) (by simp) ?_; intro v4 w4 ho4 hb4; have O4 := Lib.hid ho4; have M4 : Hid (Kpt w2 w4) := Lib.hid (Below.trans ((Kpt.refl w2).alloc _) hb4); have K4 := Lib.hid (ktr K2.out M4.out); clear ho4 hb4)
    | (at_builtin; refine wp_appendP rfl (.tmp 24) (.tmp 25) rfl w2.heap.size _ _ ([] ++ b) l _ rfl O4.out rfl (RL.out.kpt K4.out) (by simp; omega) M4.out.size ?_; intro v5 w5 ho5 hb5; have O5 := Lib.hid ho5; have M5 : Hid (Kpt w2 w5) := Lib.hid (Below.trans M4.out hb5); have K5 := Lib.hid (ktr K2.out M5.out); clear ho5 hb5 O4 M4 K4))
  have RT := Lib.hid (own_reads3 O5.out PT.out)
  have hTl : (b ++ l).length ≤ 460 := by rw [List.length_append]; omega
  obtain ⟨T, hT⟩ : ∃ T, T = b ++ l := ⟨_, rfl⟩
  rw [← hT] at RT hTl PT
  have HT := Lib.hid hT
  clear hT
  go_loopw [8, 9] (fun m i wr => ∃ a : Nat, a ≤ 101 ∧ i = .int .i64 a ∧ Hid (OwnsP wr w5.heap.size m (outF T (a * 21))) ∧ Hid (∀ i, i < a * 21 → amtB (atN T i) = true) ∧ Hid (Kpt w5 wr)) (fun _ i _ => 101 - (intOf i).toNat)
  case atStart => exact ⟨0, Nat.zero_le _, rfl, OwnsP.nil _ _, (fun i hi => absurd hi (by omega)), Kpt.refl _⟩
  case round =>
    obtain ⟨a, ha, rfl, HO, HA, HJ⟩ := hrel
    by_cases hlt : a < 101
    · have a100 : (a : Int) ≤ 100 := by omega
      have a0 : (0 : Int) ≤ (a : Int) := by omega
      go_wp2
      go_loopw [8, 10] (fun m i wr => ∃ c : Nat, c ≤ 21 ∧ i = .int .i64 c ∧ Hid (OwnsP wr w5.heap.size m (outF T (a * 21 + c))) ∧ Hid (∀ i, i < a * 21 + c → amtB (atN T i) = true) ∧ Hid (Kpt w5 wr)) (fun _ i _ => 21 - (intOf i).toNat)
      case atStart => exact ⟨0, Nat.zero_le _, rfl, HO.out, HA.out, HJ.out⟩
      case round =>
        obtain ⟨c, hc, rfl, HO, HA, HJ⟩ := hrel
        by_cases hlt2 : c < 21
        · have c20 : (c : Int) ≤ 20 := by omega
          have AP := Lib.hid (fun w hr => amts_place v5 T a c w hr (by omega) a0)
          have hal := amtsOf_len T T.length (a : Int) (c : Int)
          rw [List.take_length] at hal
          have HAT := Lib.hid (atN_is T a c hlt2)
          have OL := outF_len T (a * 21 + c)
          cases hA : amtB (sumAt T (a : Int) (c : Int)) with
          | false =>
            have SO := Lib.hid (fun v' w' base (h : Owns w' base v' (amtsOf T a c)) => sumOf_no v' (amtsOf T a c) _ h (by omega) (amtsOf_amt PT.out a c) (amtsOf_sum T a c) hA)
            have HP : Hid (PostRes b l [] 8) := .inr (.inr ⟨H0.out, H1.out, .inl ⟨rfl, rfl, a, c, by rw [← HT.out]; exact hA⟩⟩)
            clear hA
            go_wp2_with (first
              | (go_at_call 96; (with_reducible refine (AP.out _ (RT.out.kpt HJ.out)).mono ?_); rintro e w6 ⟨v6, rfl, O6, k6⟩; have K6 := Lib.hid (ktr HJ.out k6.out); clear k6)
              | (go_at_call 30; (with_reducible refine (SO.out _ _ _ O6.out).mono ?_); rintro e w7 ⟨r7, rfl, k7⟩; have K7 := Lib.hid (ktr K6.out k7); clear k7))
            go_ret2
            exact ⟨ktr K5.out K7.out, [], 8, _, HP.out, OwnsP.nil _ _, rfl⟩
          | true =>
            have SO := Lib.hid (fun v' w' base (h : Owns w' base v' (amtsOf T a c)) => sumOf_own v' (amtsOf T a c) _ h (by omega) (amtsOf_amt PT.out a c) (amtsOf_sum T a c) hA)
            have HX : Hid (∀ i, i < a * 21 + (c + 1) → amtB (atN T i) = true) := fun i hi => by
              rcases Nat.lt_or_ge i (a * 21 + c) with h | h
              · exact HA.out i h
              · obtain rfl : i = a * 21 + c := by omega
                rw [HAT.out]; exact hA
            have hAm := amt_t hA
            clear hA
            by_cases hz : sumAt T (a : Int) (c : Int) = 0
            · have HN : Hid (outF T (a * 21 + (c + 1)) = outF T (a * 21 + c)) := outF_0 (T := T) (n := a * 21 + c) (by rw [HAT.out]; exact hz)
              have z : (sumAt T (a : Int) (c : Int) != 0) = false := by rw [hz]; rfl
              clear hz
              generalize sumAt T (a : Int) (c : Int) = S at *
              go_wp2_with (first
                | (go_at_call 96; (with_reducible refine (AP.out _ (RT.out.kpt HJ.out)).mono ?_); rintro e w6 ⟨v6, rfl, O6, k6⟩; have K6 := Lib.hid (ktr HJ.out k6.out); have J6 := Lib.hid k6.out; clear k6)
                | (go_at_call 30; (with_reducible refine (SO.out _ _ _ O6.out).mono ?_); rintro e w7 ⟨rfl, k7⟩; have K7 := Lib.hid (ktr K6.out k7); have HO7 := Lib.hid (HO.out.kpt (ktr J6.out k7)); clear k7))
              go_roundw
              case rel => exact ⟨c + 1, by omega, by go_num, by unfold Hid; rw [HN.out]; exact HO7.out, HX.out, K7.out⟩
              case measure => simp [intOf]; omega
            · have HN : Hid (outF T (a * 21 + (c + 1)) = outF T (a * 21 + c) ++ [((a : Int), (c : Int), sumAt T (a : Int) (c : Int))]) := by
                have := outF_1 (T := T) (n := a * 21 + c) (by rw [HAT.out]; exact hz)
                rw [HAT.out, show (a * 21 + c) / 21 = a by omega, show (a * 21 + c) % 21 = c by omega] at this
                exact this
              have z : (sumAt T (a : Int) (c : Int) != 0) = true := bne_iff_ne.2 hz
              have hIn : Hid (InP [((a : Int), (c : Int), sumAt T (a : Int) (c : Int))]) := fun x hx => by
                rw [List.mem_singleton.1 hx]
                simp only
                omega
              clear hz
              generalize sumAt T (a : Int) (c : Int) = S at *
              go_wp2_with (first
                | (go_at_call 96; (with_reducible refine (AP.out _ (RT.out.kpt HJ.out)).mono ?_); rintro e w6 ⟨v6, rfl, O6, k6⟩; have K6 := Lib.hid (ktr HJ.out k6.out); have J6 := Lib.hid k6.out; clear k6)
                | (go_at_call 30; (with_reducible refine (SO.out _ _ _ O6.out).mono ?_); rintro e w7 ⟨rfl, k7⟩; have K7 := Lib.hid (ktr K6.out k7); have HO7 := Lib.hid (HO.out.kpt (ktr J6.out k7)); have HR7 := Lib.hid (reads_one w7 ((a : Int), (c : Int), S) w7.heap.size 55 rfl hIn.out); clear k7)
                | (at_builtin; refine wp_appendP rfl (.tmp 47) (.tmp 52) rfl w5.heap.size _ _ (outF T (a * 21 + c)) [((a : Int), (c : Int), S)] _ rfl (HO7.out.alloc _) rfl HR7.out (by simp; omega) (Nat.le_trans K7.out.size (by simp)) ?_; intro v8 w8 ho8 hb8; have HO8 : Hid (OwnsP w8 w5.heap.size v8 (outF T (a * 21 + (c + 1)))) := (by unfold Hid; rw [HN.out]; exact ho8); have K8 : Hid (Kpt w5 w8) := Below.trans (K7.out.alloc _) hb8; clear ho8 hb8))
              go_roundw
              case rel => exact ⟨c + 1, by omega, by go_num, HO8.out, HX.out, K8.out⟩
              case measure => simp [intOf]; omega
        · obtain rfl : c = 21 := by omega
          go_wp2
          go_roundw
          case rel => exact ⟨a + 1, by omega, by go_num, by unfold Hid; rw [show (a + 1) * 21 = a * 21 + 21 by omega]; exact HO.out, by unfold Hid; rw [show (a + 1) * 21 = a * 21 + 21 by omega]; exact HA.out, HJ.out⟩
          case measure => simp [intOf]; omega
    · obtain rfl : a = 101 := by omega
      have BK := Lib.hid (outF_book PT.out HA.out)
      have AL := Lib.hid (all_amt PT.out HA.out)
      rw [HT.out] at AL
      have BK2 : Hid (IsBook (outF T 2121) (b ++ l)) := by unfold Hid; rw [← HT.out]; exact BK.out
      have HO2 : Hid (OwnsP wr w5.heap.size u8 (outF T 2121)) := HO.out
      clear HO HA BK
      generalize outF T 2121 = R at *
      obtain ⟨ar, cr, rfl⟩ := HO2.out.form
      have hrl := HO2.out.reads (inP_of (strict_pt BK2.out.strict)) |>.len
      unfold maxLen at hrl
      by_cases hlen : 400 < R.length
      · have HP : Hid (PostRes b l [] 2) := .inr (.inr ⟨H0.out, H1.out, .inr ⟨AL.out, R, BK2.out, .inl ⟨hlen, rfl, rfl⟩⟩⟩)
        have hi : (400 : Int) < (R.length : Int) := by omega
        go_wp2
        go_ret2
        exact ⟨ktr K5.out HJ.out, [], 2, _, HP.out, OwnsP.nil _ _, rfl⟩
      · have HP : Hid (PostRes b l R 0) := .inr (.inr ⟨H0.out, H1.out, .inr ⟨AL.out, R, BK2.out, .inr ⟨by omega, rfl, rfl⟩⟩⟩)
        have hi : decide ((400 : Int) < (R.length : Int)) = false := decide_eq_false (by omega)
        go_wp2
        go_ret2
        exact ⟨ktr K5.out HJ.out, R, 0, _, HP.out, HO2.out.base K5.out.size, rfl⟩
theorem rpost_any (v u : Value) (b l : List (Int × Int × Int)) (w : World) (hb : ReadsP w v b) (hl : ReadsP w u l) : Calls Tryz.prog 43 #[v, u] w (PostEnd w b l) := by
  by_cases h0 : linE b = 0
  · by_cases h1 : chkE l = 0
    · exact rpost_ok v u b l w hb hl h0 h1
    · exact rpost_chk v u b l w hb hl h0 h1
  · exact rpost_lin v u b l w hb h0
end Go.Proofs.YthaahebggboliaaGreat
namespace Go.Proofs.YthaahebggboliaaGreat
open Go.RowKit Go.Sort Go.Lib
set_option linter.unusedVariables false
set_option maxRecDepth 100000 in
set_option maxHeartbeats 4000000 in
theorem rwc_run (T : Int) (fv bv : Value) (fs : List (List Int)) (b : List (Int × Int × Int)) (w : World) (hF : ReadsF w fv fs) (hb : ReadsP w bv b) :
    Calls Tryz.prog 17 #[.agg #[.int .i64 T, fv, bv]] w fun e w' => e = .returned (.int .i64 (wldE T fs b)) ∧ Kpt w w' := by
  have FC := Lib.hid (fun w' (k : Kpt w w') => rfcs_run fv fs w' (hF.kpt k))
  have BL := Lib.hid (fun w' (k : Kpt w w') => rlines_any bv b w' (hb.kpt k))
  have K0 : Hid (Kpt w (w.alloc (.cells #[.int .i64 T, fv, bv] 31))) := (Kpt.refl w).alloc _
  have B0 : Hid (Blk (w.alloc (.cells #[.int .i64 T, fv, bv] 31)) w.heap.size #[.int .i64 T, fv, bv] 31) := Blk.made _ _ _
  obtain ⟨a, c, rfl, -⟩ := _root_.id hF
  obtain ⟨a', c', rfl, -⟩ := _root_.id hb
  clear hF hb
  by_cases hT : 0 ≤ T ∧ T ≤ 3652058
  · have BT := Lib.hid (fun w => rbt_any T 0 3652058 true (by unfold btw; exact decide_eq_true hT) w)
    have e0 : todE T = 0 := if_pos hT
    by_cases h1 : checksE fs = 0
    · have e : wldE T fs b = linE b := by unfold wldE; rw [e0, h1]; rfl
      rw [h1] at FC
      rw [e]
      clear e e0 h1 hT
      generalize linE b = E at *
      go_enter Tryz.func17, Tryz.ntmps17
      go_wp2_with (first
        | (go_at_call 54; (with_reducible refine (BT.out _).mono ?_); rintro z w1 ⟨rfl, rfl⟩)
        | (go_at_call 58; (with_reducible refine (FC.out _ K0.out).mono ?_); rintro z w2 ⟨rfl, kk⟩; have K2 : Hid (Kpt w w2) := ktr K0.out kk; have x2 : World.cell? w2 ⟨w.heap.size, 2, none⟩ = some (.slice a' b.length c') := (B0.out.kpt kk).cell 2; clear kk)
        | (go_at_call 59; (with_reducible refine (BL.out _ K2.out).mono ?_); rintro z w3 ⟨rfl, kk⟩; have K3 : Hid (Kpt w w3) := ktr K2.out kk; clear kk)
        | fail)
      go_ret
      exact ⟨rfl, K3.out⟩
    · have e : wldE T fs b = checksE fs := by unfold wldE orE; rw [if_pos e0, if_neg h1]
      have q : (checksE fs == 0) = false := beq_eq_false_iff_ne.2 h1
      rw [e]
      clear e e0 h1 hT
      generalize checksE fs = E at *
      go_enter Tryz.func17, Tryz.ntmps17
      go_wp2_with (first
        | (go_at_call 54; (with_reducible refine (BT.out _).mono ?_); rintro z w1 ⟨rfl, rfl⟩)
        | (go_at_call 58; (with_reducible refine (FC.out _ K0.out).mono ?_); rintro z w2 ⟨rfl, kk⟩; have K2 : Hid (Kpt w w2) := ktr K0.out kk; clear kk)
        | fail)
      go_ret
      exact ⟨rfl, K2.out⟩
  · have BT := Lib.hid (fun w => rbt_any T 0 3652058 false (by unfold btw; exact decide_eq_false hT) w)
    have e : wldE T fs b = 3 := by unfold wldE orE todE; rw [if_neg hT, if_neg (by decide)]
    rw [e]
    clear e hT
    go_enter Tryz.func17, Tryz.ntmps17
    go_wp2_with (first
      | (go_at_call 54; (with_reducible refine (BT.out _).mono ?_); rintro z w1 ⟨rfl, rfl⟩)
      | fail)
    go_ret
    exact ⟨rfl, K0.out⟩
/-- a delivered part, or nothing -/
theorem rless_run (l : List Int) (n : Int) (w : World) : Calls Tryz.prog 64 #[.agg #[.int .i64 (l.getD 0 0), .int .i64 (l.getD 1 0), .int .i64 (l.getD 2 0), .int .i64 (l.getD 3 0), .int .i64 (l.getD 4 0), .int .i64 (l.getD 5 0), .int .i64 (l.getD 6 0), .int .i64 (l.getD 7 0), .int .i64 (l.getD 8 0), .int .i64 (l.getD 9 0)], .int .i64 n, .int .i64 1] w fun e w' => (tkL l n ≠ 0 → e = .returned (.tuple #[.agg #[.int .i64 0, .int .i64 0, .int .i64 0, .int .i64 0, .int .i64 0, .int .i64 0, .int .i64 0, .int .i64 0, .int .i64 0, .int .i64 0], .int .i64 (tkL l n)])) ∧ (tkL l n = 0 → e = .returned (.tuple #[.agg #[.int .i64 (l.getD 0 0), .int .i64 (l.getD 1 0), .int .i64 (l.getD 2 0), .int .i64 (l.getD 3 0), .int .i64 (l.getD 4 0), .int .i64 (l.getD 5 0), .int .i64 (l.getD 6 0), .int .i64 (l.getD 7 0 + n), .int .i64 (l.getD 8 0), .int .i64 (l.getD 9 0)], .int .i64 0])) ∧ Kpt w w' := by
  have CK := fun w' => rfc_run (l.getD 0 0) (l.getD 1 0) (l.getD 2 0) (l.getD 3 0) (l.getD 4 0) (l.getD 5 0) (l.getD 6 0) (l.getD 7 0) (l.getD 8 0) (l.getD 9 0) w'
  change ∀ w', Calls Tryz.prog 98 _ w' fun e w'' => e = .returned (.int .i64 (failEL l)) ∧ Kpt w' w'' at CK
  by_cases h0 : failEL l = 0
  · have fb := fail_0 (show failE _ _ _ _ _ _ _ _ _ _ = 0 from h0)
    have fd := fdue_t fb.1
    have ft := ftk_t fb.2.2.1
    have OP := fun w' => rfo_run (l.getD 0 0) (l.getD 1 0) (l.getD 2 0) (l.getD 3 0) (l.getD 4 0) (l.getD 5 0) (l.getD 6 0) (l.getD 7 0) (l.getD 8 0) (l.getD 9 0) w' fd.2.2.2.2.2 ft.1 ft.2.1 ft.2.2
    have oe : opL l = l.getD 6 0 - l.getD 7 0 - l.getD 8 0 - l.getD 9 0 := by
      show openV _ _ _ _ _ _ _ _ _ _ = _
      unfold openV
      rw [if_pos (show failE _ _ _ _ _ _ _ _ _ _ = 0 from h0)]
    rw [← oe] at OP
    rw [h0] at CK
    by_cases h1 : 1 ≤ n ∧ n ≤ 1073741824
    · have Y : btw 1 1073741824 n = true := by unfold btw; exact decide_eq_true h1
      by_cases h2 : opL l = 0
      · have e : tkL l n = 5 := by unfold tkL takeE; rw [if_pos h0, if_neg (by omega), if_pos h2]
        rw [e]
        refine (rls_n _ _ _ _ _ _ _ _ _ _ n 1 0 (opL l) rfl Y (beq_iff_eq.2 h2) w CK OP).mono ?_
        rintro x w' ⟨rfl, k⟩
        exact ⟨fun _ => rfl, fun h => absurd h (by decide), k⟩
      · by_cases h3 : opL l < n
        · have e : tkL l n = 8 := by unfold tkL takeE; rw [if_pos h0, if_neg (by omega), if_neg h2, if_pos h3]
          rw [e]
          refine (rls_w _ _ _ _ _ _ _ _ _ _ n 1 0 (opL l) rfl Y (beq_eq_false_iff_ne.2 h2) (decide_eq_true h3) w CK OP).mono ?_
          rintro x w' ⟨rfl, k⟩
          exact ⟨fun _ => rfl, fun h => absurd h (by decide), k⟩
        · have e : tkL l n = 0 := by unfold tkL takeE; rw [if_pos h0, if_neg (by omega), if_neg h2, if_neg h3]
          rw [e]
          refine (rls_1 _ _ _ _ _ _ _ _ _ _ n 1 0 (opL l) rfl rfl Y (beq_eq_false_iff_ne.2 h2) (decide_eq_false h3) ⟨ft.1.1, by omega⟩ h1 rfl w CK OP).mono ?_
          rintro x w' ⟨rfl, k⟩
          exact ⟨fun h => absurd rfl h, fun _ => rfl, k⟩
    · have Y : btw 1 1073741824 n = false := by unfold btw; exact decide_eq_false h1
      have e : tkL l n = 3 := by unfold tkL takeE; rw [if_pos h0, if_pos (by omega)]
      rw [e]
      refine (rls_r _ _ _ _ _ _ _ _ _ _ n 1 0 rfl Y w CK).mono ?_
      rintro x w' ⟨rfl, k⟩
      exact ⟨fun _ => rfl, fun h => absurd h (by decide), k⟩
  · have e : tkL l n = failEL l := by unfold tkL takeE; rw [if_neg h0]
    rw [e]
    refine (rls_e _ _ _ _ _ _ _ _ _ _ n 1 (failEL l) (beq_eq_false_iff_ne.2 h0) (bne_iff_ne.2 h0) w CK).mono ?_
    rintro x w' ⟨rfl, k⟩
    exact ⟨fun _ => rfl, fun h => absurd h h0, k⟩
set_option maxRecDepth 100000 in
set_option maxHeartbeats 4000000 in
theorem rtidy_run (T : Int) (fv bv : Value) (fs : List (List Int)) (w : World) (hr : ReadsF w fv fs) (h60 : fs.length ≤ 60) (hok : ∀ l ∈ fs, failEL l = 0) :
    Calls Tryz.prog 25 #[.agg #[.int .i64 T, fv, bv]] w fun e w' => ∃ nv yv, e = .returned (.tuple #[nv, yv]) ∧ OwnsN 10 42 w' w.heap.size nv (opnF fs) ∧ OwnsN 10 42 w' w.heap.size yv (donF fs) ∧ Kpt w w' := by
  obtain ⟨a, cap, rfl, hm, -, hc⟩ := hr
  have HC := Lib.hid hc
  have HOK := Lib.hid hok
  obtain ⟨n, hn⟩ : ∃ n, n = fs.length := ⟨_, rfl⟩
  have DS := Lib.hid (fun k (h : k < fs.length) => don_s h)
  have OS := Lib.hid (fun k (h : k < fs.length) => opn_s h)
  have DN : Hid (donF (fs.take n) = donF fs) := by unfold Hid; rw [hn, List.take_length]
  have ON : Hid (opnF (fs.take n) = opnF fs) := by unfold Hid; rw [hn, List.take_length]
  have DL := Lib.hid (don_len fs)
  have OL := Lib.hid (opn_len fs)
  have GM := Lib.hid (fun k (h : k < fs.length) => getF_mem h)
  rw [← hn] at h60 HC DS OS GM ⊢
  have HA := Lib.hid h60
  have K0 : Hid (Kpt w (w.alloc (.cells #[.int .i64 T, .slice a n cap, bv] 31))) := (Kpt.refl w).alloc _
  have B0 : Hid (Blk (w.alloc (.cells #[.int .i64 T, .slice a n cap, bv] 31)) w.heap.size #[.int .i64 T, .slice a n cap, bv] 31) := Blk.made _ _ _
  clear hc hn hm hok h60
  go_enter Tryz.func25, Tryz.ntmps25
  go_wp2
  have W0S : Hid ((w.alloc (.cells #[.int .i64 T, .slice a n cap, bv] 31)).heap.size ≤ w.heap.size + 1) := by unfold Hid; simp
  generalize (w.alloc (.cells #[.int .i64 T, .slice a n cap, bv] 31)) = w0 at *
  go_loopw [4, 5, 6] (fun nv yv ii wr => ∃ k : Nat, k ≤ n ∧ ii = .int .i64 (k : Int) ∧ Hid (OwnsN 10 42 wr (w.heap.size + 1) yv (donF (fs.take k))) ∧ Hid (OwnsN 10 42 wr (w.heap.size + 1) nv (opnF (fs.take k))) ∧ Hid (Ap yv nv) ∧ Hid (Kpt w0 wr)) (fun nv yv ii _ => n - (intOf ii).toNat)
  case atStart => exact ⟨0, Nat.zero_le _, rfl, OwnsN.nil _ _ _ _, OwnsN.nil _ _ _ _, .inl rfl, Kpt.refl w0⟩
  case round =>
    obtain ⟨k, hk, rfl, HY, HN, HP, HK0⟩ := hrel
    have HK : Hid (Kpt w wr) := ktr K0.out HK0.out
    have t1 : World.cell? wr ⟨w.heap.size, 1, none⟩ = some (.slice a n cap) := (B0.out.kpt HK0.out).cell 1
    by_cases hlt : k < n
    · obtain ⟨g, off, rfl, hfl⟩ := HC.out k hlt
      have hf := hfl.kpt HK.out
      have ds := DS.out k hlt
      have os := OS.out k hlt
      have e1 := HOK.out _ (GM.out k hlt)
      have c0 : wr.cell? ⟨g, off + k * 10, none⟩ = _ := hf 0 (by omega)
      have c1 : wr.cell? ⟨g, off + k * 10 + 1, none⟩ = _ := hf 1 (by omega)
      have c2 : wr.cell? ⟨g, off + k * 10 + 2, none⟩ = _ := hf 2 (by omega)
      have c3 : wr.cell? ⟨g, off + k * 10 + 3, none⟩ = _ := hf 3 (by omega)
      have c4 : wr.cell? ⟨g, off + k * 10 + 4, none⟩ = _ := hf 4 (by omega)
      have c5 : wr.cell? ⟨g, off + k * 10 + 5, none⟩ = _ := hf 5 (by omega)
      have c6 : wr.cell? ⟨g, off + k * 10 + 6, none⟩ = _ := hf 6 (by omega)
      have c7 : wr.cell? ⟨g, off + k * 10 + 7, none⟩ = _ := hf 7 (by omega)
      have c8 : wr.cell? ⟨g, off + k * 10 + 8, none⟩ = _ := hf 8 (by omega)
      have c9 : wr.cell? ⟨g, off + k * 10 + 9, none⟩ = _ := hf 9 (by omega)
      clear HC GM HOK
      generalize fs.getD k [] = l at *
      have fb := fail_0 (show failE _ _ _ _ _ _ _ _ _ _ = 0 from e1)
      have fd := fdue_t fb.1
      have ft := ftk_t fb.2.2.1
      have RO := Lib.hid (fun w' => rfo_run (l.getD 0 0) (l.getD 1 0) (l.getD 2 0) (l.getD 3 0) (l.getD 4 0) (l.getD 5 0) (l.getD 6 0) (l.getD 7 0) (l.getD 8 0) (l.getD 9 0) w' fd.2.2.2.2.2 ft.1 ft.2.1 ft.2.2)
      have oe : l.getD 6 0 - l.getD 7 0 - l.getD 8 0 - l.getD 9 0 = opL l := by
        show _ = openV _ _ _ _ _ _ _ _ _ _
        unfold openV
        rw [if_pos (show failE _ _ _ _ _ _ _ _ _ _ = 0 from e1)]
      rw [oe] at RO
      have on : 0 ≤ opL l := by rw [← oe]; exact fb.2.2.2
      have RL : Hid (rowN 10 l = [.int .i64 (l.getD 0 0), .int .i64 (l.getD 1 0), .int .i64 (l.getD 2 0), .int .i64 (l.getD 3 0), .int .i64 (l.getD 4 0), .int .i64 (l.getD 5 0), .int .i64 (l.getD 6 0), .int .i64 (l.getD 7 0), .int .i64 (l.getD 8 0), .int .i64 (l.getD 9 0)]) := rfl
      have y1 : decide ((k : Int) < (n : Int)) = true := decide_eq_true (by omega)
      have i0 : (0 : Int) ≤ (k : Int) := by omega
      have i1 : (k : Int) < (n : Int) := by omega
      have m0 : IntKind.i64.wrap ((k : Int) + 1) = (k : Int) + 1 := IntWalk.i64_in _ (by have := HA.out; omega)
      have DLk := Lib.hid (DL.out k)
      have OLk := Lib.hid (OL.out k)
      clear hfl hf DS OS DL OL fb fd ft oe e1
      by_cases ho : opL l = 0
      · have qz : (opL l == 0) = true := beq_iff_eq.2 ho
        have qd : decide (0 < opL l) = false := decide_eq_false (by omega)
        rw [qz] at ds os
        have ds' : Hid (donF (fs.take (k + 1)) = donF (fs.take k) ++ [l]) := ds
        have os' : Hid (opnF (fs.take (k + 1)) = opnF (fs.take k)) := os.trans (List.append_nil _)
        clear ds os qz ho on
        generalize opL l = o at *
        generalize l.getD 0 0 = z0 at *
        generalize l.getD 1 0 = z1 at *
        generalize l.getD 2 0 = z2 at *
        generalize l.getD 3 0 = z3 at *
        generalize l.getD 4 0 = z4 at *
        generalize l.getD 5 0 = z5 at *
        generalize l.getD 6 0 = z6 at *
        generalize l.getD 7 0 = z7 at *
        generalize l.getD 8 0 = z8 at *
        generalize l.getD 9 0 = z9 at *
        go_wp2_with (first
          | (go_at_call 35; (with_reducible refine (RO.out _).mono ?_); rintro e w10 ⟨rfl, kk⟩; have KK10 : Hid (Kpt wr w10) := kk; have KA10 : Hid (Kpt w0 w10) := ktr HK0.out kk; have t10 : World.cell? w10 ⟨w.heap.size, 1, none⟩ = some (.slice (some ⟨g, off, none⟩) n cap) := (B0.out.kpt KA10.out).cell 1; have d0 := KK10.out.cell c0; have d1 := KK10.out.cell c1; have d2 := KK10.out.cell c2; have d3 := KK10.out.cell c3; have d4 := KK10.out.cell c4; have d5 := KK10.out.cell c5; have d6 := KK10.out.cell c6; have d7 := KK10.out.cell c7; have d8 := KK10.out.cell c8; have d9 := KK10.out.cell c9; have Y10 := Lib.hid (HY.out.kpt kk); have N10 := Lib.hid (HN.out.kpt kk); have S10 : Hid (w.heap.size + 1 ≤ w10.heap.size) := (by have h1 := KA10.out.size; have h2 := B0.out.lt; unfold Hid; omega); clear kk)
          | (at_builtin; refine wp_append2F rfl (.tmp 29) (.tmp 35) rfl (w.heap.size + 1) _ _ _ _ l _ w10 rfl Y10.out N10.out HP.out rfl RL.out.symm (by have h1 : _ ≤ k := DLk.out; have h2 : n ≤ 60 := HA.out; omega) S10.out ?_; intro v' w11 h1 h2 h3 h4; rw [← ds'.out] at h1; rw [← os'.out] at h2; have A11 := Lib.hid h1; have B11 := Lib.hid h2; have P11 := Lib.hid h3; have K11 : Hid (Kpt w0 w11) := (show Below w0.heap.size w0 w11 from (show Below w0.heap.size w0 w10 from KA10.out).trans (h4.mono W0S.out)); clear h1 h2 h3 h4)
          | fail)
        go_roundw
        case rel => exact ⟨k + 1, by omega, by go_num, A11.out, B11.out, P11.out, K11.out⟩
        case measure => simp [intOf]; omega
      · have qz : (opL l == 0) = false := beq_eq_false_iff_ne.2 ho
        have qd : decide (0 < opL l) = true := decide_eq_true (by omega)
        rw [qz] at ds os
        have ds' : Hid (donF (fs.take (k + 1)) = donF (fs.take k)) := ds.trans (List.append_nil _)
        have os' : Hid (opnF (fs.take (k + 1)) = opnF (fs.take k) ++ [l]) := os
        clear ds os qz ho on
        generalize opL l = o at *
        generalize l.getD 0 0 = z0 at *
        generalize l.getD 1 0 = z1 at *
        generalize l.getD 2 0 = z2 at *
        generalize l.getD 3 0 = z3 at *
        generalize l.getD 4 0 = z4 at *
        generalize l.getD 5 0 = z5 at *
        generalize l.getD 6 0 = z6 at *
        generalize l.getD 7 0 = z7 at *
        generalize l.getD 8 0 = z8 at *
        generalize l.getD 9 0 = z9 at *
        go_wp2_with (first
          | (go_at_call 35; (with_reducible refine (RO.out _).mono ?_); rintro e w10 ⟨rfl, kk⟩; have KK10 : Hid (Kpt wr w10) := kk; have KA10 : Hid (Kpt w0 w10) := ktr HK0.out kk; have t10 : World.cell? w10 ⟨w.heap.size, 1, none⟩ = some (.slice (some ⟨g, off, none⟩) n cap) := (B0.out.kpt KA10.out).cell 1; have d0 := KK10.out.cell c0; have d1 := KK10.out.cell c1; have d2 := KK10.out.cell c2; have d3 := KK10.out.cell c3; have d4 := KK10.out.cell c4; have d5 := KK10.out.cell c5; have d6 := KK10.out.cell c6; have d7 := KK10.out.cell c7; have d8 := KK10.out.cell c8; have d9 := KK10.out.cell c9; have Y10 := Lib.hid (HY.out.kpt kk); have N10 := Lib.hid (HN.out.kpt kk); have S10 : Hid (w.heap.size + 1 ≤ w10.heap.size) := (by have h1 := KA10.out.size; have h2 := B0.out.lt; unfold Hid; omega); clear kk)
          | (at_builtin; refine wp_append2F rfl (.tmp 21) (.tmp 27) rfl (w.heap.size + 1) _ _ _ _ l _ w10 rfl N10.out Y10.out HP.out.symm rfl RL.out.symm (by have h1 : _ ≤ k := OLk.out; have h2 : n ≤ 60 := HA.out; omega) S10.out ?_; intro v' w11 h1 h2 h3 h4; rw [← os'.out] at h1; rw [← ds'.out] at h2; have A11 := Lib.hid h1; have B11 := Lib.hid h2; have P11 := Lib.hid h3; have K11 : Hid (Kpt w0 w11) := (show Below w0.heap.size w0 w11 from (show Below w0.heap.size w0 w10 from KA10.out).trans (h4.mono W0S.out)); clear h1 h2 h3 h4)
          | fail)
        go_roundw
        case rel => exact ⟨k + 1, by omega, by go_num, B11.out, A11.out, Ap.symm P11.out, K11.out⟩
        case measure => simp [intOf]; omega
    · have hkl : k = n := by omega
      subst hkl
      have y1 : decide ((k : Int) < (k : Int)) = false := decide_eq_false (by omega)
      have hy := HY.out
      have hn := HN.out
      rw [DN.out] at hy
      rw [ON.out] at hn
      have HY2 := Lib.hid hy
      have HN2 := Lib.hid hn
      clear hy hn
      go_wp2
      go_ret2
      exact ⟨_, _, rfl, Joins.ownsRow_le HN2.out (Nat.le_succ _), Joins.ownsRow_le HY2.out (Nat.le_succ _), HK.out⟩
end Go.Proofs.YthaahebggboliaaGreat
namespace Go.Proofs.YthaahebggboliaaGreat
open Go.RowKit Go.Sort Go.Lib
set_option linter.unusedVariables false
/-- a world that the reference answers, with an error -/
def RwRes (w : World) (E T : Int) (fs : List (List Int)) (b : List (Int × Int × Int)) (e : Ending) (w' : World) : Prop :=
  ∃ fv bv, e = .returned (.tuple #[.agg #[.int .i64 T, fv, bv], .int .i64 E]) ∧ (ReadsF w' fv fs ∧ (∃ a n c, fv = .slice a n c)) ∧ (ReadsP w' bv b ∧ ∃ a n c, bv = .slice a n c) ∧ Kpt w w'
theorem rwRes_0 {w w' : World} {E : Int} (k : Kpt w w') : RwRes w E 0 [] [] (.returned (.tuple #[.agg #[.int .i64 0, .slice none 0 0, .slice none 0 0], .int .i64 E])) w' :=
  ⟨_, _, rfl, ⟨readsF_nil _ _ _, _, _, _, rfl⟩, ⟨readsP_nil _ none 0 (fun _ => rfl), _, _, _, rfl⟩, k⟩
theorem rwRes_E {w w' : World} {T E : Int} {fs : List (List Int)} {b : List (Int × Int × Int)} {l : List Int} (h : adE T fs b l = E) (h0 : E ≠ 0) (k : Kpt w w') : RwRes w (adE T fs b l) (adT T fs b l) (adF T fs b l) (adB T fs b l) (.returned (.tuple #[.agg #[.int .i64 0, .slice none 0 0, .slice none 0 0], .int .i64 E])) w' := by
  subst h
  unfold adT adF adB
  rw [if_neg h0, if_neg h0, if_neg h0]
  exact rwRes_0 k
theorem wp_appendFn {ops : Array Oper} {rest : List Oper} {o : Oper} {a : Act} {w : World} {Q : Exit → Act → World → Prop} (hgd : o.guard = none) (s x : Operand)
    (ho : o.op = .call { callee := .builtin .append, args := #[s, x], argTypes := #[28, 28] })
    (base B n c : Nat) (u : Value) (fs gs : List (List Int)) (hs : a.eval s = .slice (some ⟨B, 0, none⟩) n c) (hown : OwnsN 10 42 w base (.slice (some ⟨B, 0, none⟩) n c) fs) (hx : a.eval x = u) (hr : ReadsF w u gs) (hn : NilC u)
    (hlen : fs.length + gs.length ≤ 100000) (hbase : base ≤ w.heap.size) (m : Nat) (L : List (List Int)) (hm : m = fs.length + gs.length) (hL : L = fs ++ gs)
    (h : ∀ g cap w', OwnsN 10 42 w' base (.slice (some ⟨g, 0, none⟩) m cap) L → w.grownBy w' (some B) → base ≤ g → wpList Tryz.prog ops Q rest (a.put o.dst (.slice (some ⟨g, 0, none⟩) m cap)) w') : wpList Tryz.prog ops Q (o :: rest) a w :=
  wpList_step fun K hK => step_appendFs hgd s x ho base B n c u fs gs hs hown hx hr hn hlen hbase m L hm hL fun g cap w' h1 h2 h3 => hK _ _ (h g cap w' h1 h2 h3)
theorem rf_one1 {w : World} {g : Nat} {cs : Array Value} {k : List Int} (h : Blk w g cs 42) (e : cs.toList = flatN 10 [k]) (hk : FlB k) : ReadsF w (.slice (some ⟨g, 0, none⟩) 1 1) [k] := by
  refine ⟨_, 1, rfl, (by unfold maxLen; simp), fun x hx => by rw [List.mem_singleton.1 hx]; exact hk, fun q hq => ⟨g, 0, rfl, fun j hj => ?_⟩⟩
  have h1 := flatN_at [k] q j hq hj
  rw [← e] at h1
  rw [Nat.zero_add, h.cell]
  simpa using h1
set_option maxRecDepth 100000 in
set_option maxHeartbeats 4000000 in
theorem radd_w (T p0 p1 p2 p3 p4 p5 p6 p7 p8 p9 : Int) (a : Option Addr) (c : Nat) (ab : Option Addr) (cb : Nat) (fs : List (List Int)) (b : List (Int × Int × Int)) (w : World) (hF : ReadsF w (.slice a fs.length c) fs) (hn : NilC (.slice a fs.length c)) (hb : ReadsP w (.slice ab b.length cb) b) (E : Int) (hw : wldE T fs b = E) (h0 : E ≠ 0) : Calls Tryz.prog 24 #[.agg #[.int .i64 T, .slice a fs.length c, .slice ab b.length cb], .agg #[.int .i64 p0, .int .i64 p1, .int .i64 p2, .int .i64 p3, .int .i64 p4, .int .i64 p5, .int .i64 p6, .int .i64 p7, .int .i64 p8, .int .i64 p9]] w (RwRes w (adE T fs b [p0, p1, p2, p3, p4, p5, p6, p7, p8, p9]) (adT T fs b [p0, p1, p2, p3, p4, p5, p6, p7, p8, p9]) (adF T fs b [p0, p1, p2, p3, p4, p5, p6, p7, p8, p9]) (adB T fs b [p0, p1, p2, p3, p4, p5, p6, p7, p8, p9])) := by
  have hE : adE T fs b [p0, p1, p2, p3, p4, p5, p6, p7, p8, p9] = E := by unfold adE orE; rw [if_neg (by rw [hw]; exact h0)]; exact hw
  have z0 : (E != 0) = true := bne_iff_ne.2 h0
  have FIN := Lib.hid (fun w' (k : Kpt w w') => rwRes_E (T := T) (fs := fs) (b := b) (l := [p0, p1, p2, p3, p4, p5, p6, p7, p8, p9]) (E := E) hE h0 k)
  clear hE h0
  have WC := Lib.hid (fun w' (k : Kpt w w') => rwc_run T (.slice a fs.length c) (.slice ab b.length cb) fs b w' (hF.kpt k) (hb.kpt k))
  have HF := Lib.hid hF
  have HNil := Lib.hid hn
  have HB := Lib.hid hb
  clear hF hn hb
  obtain ⟨n, hn'⟩ : ∃ n, n = fs.length := ⟨_, rfl⟩
  rw [← hn'] at WC HF HNil ⊢
  have HN := Lib.hid hn'
  clear hn'
  have K3 : Hid (Kpt w (((w.alloc (.cells #[.int .i64 T, .slice a n c, .slice ab b.length cb] 31)).alloc (.cells #[.int .i64 p0, .int .i64 p1, .int .i64 p2, .int .i64 p3, .int .i64 p4, .int .i64 p5, .int .i64 p6, .int .i64 p7, .int .i64 p8, .int .i64 p9] 42)).alloc (.cells #[.int .i64 0, .slice none 0 0, .slice none 0 0] 31))) := (((Kpt.refl w).alloc _).alloc _).alloc _
  have B2 : Hid (Blk (((w.alloc (.cells #[.int .i64 T, .slice a n c, .slice ab b.length cb] 31)).alloc (.cells #[.int .i64 p0, .int .i64 p1, .int .i64 p2, .int .i64 p3, .int .i64 p4, .int .i64 p5, .int .i64 p6, .int .i64 p7, .int .i64 p8, .int .i64 p9] 42)).alloc (.cells #[.int .i64 0, .slice none 0 0, .slice none 0 0] 31)) w.heap.size #[.int .i64 T, .slice a n c, .slice ab b.length cb] 31) := ((Blk.made w _ _).alloc _).alloc _
  have B3 : Hid (Blk (((w.alloc (.cells #[.int .i64 T, .slice a n c, .slice ab b.length cb] 31)).alloc (.cells #[.int .i64 p0, .int .i64 p1, .int .i64 p2, .int .i64 p3, .int .i64 p4, .int .i64 p5, .int .i64 p6, .int .i64 p7, .int .i64 p8, .int .i64 p9] 42)).alloc (.cells #[.int .i64 0, .slice none 0 0, .slice none 0 0] 31)) (w.heap.size + 1) #[.int .i64 p0, .int .i64 p1, .int .i64 p2, .int .i64 p3, .int .i64 p4, .int .i64 p5, .int .i64 p6, .int .i64 p7, .int .i64 p8, .int .i64 p9] 42) := by
    have := Blk.made (w.alloc (.cells #[.int .i64 T, .slice a n c, .slice ab b.length cb] 31)) #[.int .i64 p0, .int .i64 p1, .int .i64 p2, .int .i64 p3, .int .i64 p4, .int .i64 p5, .int .i64 p6, .int .i64 p7, .int .i64 p8, .int .i64 p9] 42
    rw [World.size_alloc] at this
    exact this.alloc _
  have B4 : Hid (Blk (((w.alloc (.cells #[.int .i64 T, .slice a n c, .slice ab b.length cb] 31)).alloc (.cells #[.int .i64 p0, .int .i64 p1, .int .i64 p2, .int .i64 p3, .int .i64 p4, .int .i64 p5, .int .i64 p6, .int .i64 p7, .int .i64 p8, .int .i64 p9] 42)).alloc (.cells #[.int .i64 0, .slice none 0 0, .slice none 0 0] 31)) (w.heap.size + 2) #[.int .i64 0, .slice none 0 0, .slice none 0 0] 31) := by
    have := Blk.made ((w.alloc (.cells #[.int .i64 T, .slice a n c, .slice ab b.length cb] 31)).alloc (.cells #[.int .i64 p0, .int .i64 p1, .int .i64 p2, .int .i64 p3, .int .i64 p4, .int .i64 p5, .int .i64 p6, .int .i64 p7, .int .i64 p8, .int .i64 p9] 42)) #[.int .i64 0, .slice none 0 0, .slice none 0 0] 31
    rw [World.size_alloc, World.size_alloc] at this
    exact this
  rw [hw] at WC
  clear hw
  go_enter Tryz.func24, Tryz.ntmps24
  go_wp2_with (first
    | (go_at_call 17; (with_reducible refine (WC.out _ K3.out).mono ?_); rintro z w1 ⟨rfl, kk⟩; have K1 : Hid (Kpt w w1) := ktr K3.out kk; have KW1 : Hid (Kpt (((w.alloc (.cells #[.int .i64 T, .slice a n c, .slice ab b.length cb] 31)).alloc (.cells #[.int .i64 p0, .int .i64 p1, .int .i64 p2, .int .i64 p3, .int .i64 p4, .int .i64 p5, .int .i64 p6, .int .i64 p7, .int .i64 p8, .int .i64 p9] 42)).alloc (.cells #[.int .i64 0, .slice none 0 0, .slice none 0 0] 31)) w1) := kk; have Z1 := Lib.hid (B4.out.kpt kk);  clear kk WC)
    | (refine wp_storeW rfl (.tmp 4) (.tmp 12) rfl (w.heap.size + 2) _ _ rfl rfl Z1.out rfl rfl (by simp [Value.oneCell']) ?_; intro w9 r9 k9 o9; have R9 := Lib.hid r9; have K9 : Hid (Kpt w w9) := k9 _ _ K1.out (by omega); have O9 := Lib.hid o9; clear r9 k9 o9)
    | fail)
  exact bodyPost_ret (v := .tuple #[.agg #[.int .i64 0, .slice none 0 0, .slice none 0 0], .int .i64 E]) (results_W2 Tryz.results24 _ _ _ _ _ rfl rfl R9.out rfl) rfl (FIN.out _ K9.out)
set_option maxRecDepth 100000 in
set_option maxHeartbeats 4000000 in
theorem radd_old (T p0 p1 p2 p3 p4 p5 p6 p7 p8 p9 : Int) (a : Option Addr) (c : Nat) (ab : Option Addr) (cb : Nat) (fs : List (List Int)) (b : List (Int × Int × Int)) (w : World) (hF : ReadsF w (.slice a fs.length c) fs) (hn : NilC (.slice a fs.length c)) (hb : ReadsP w (.slice ab b.length cb) b) (hw : wldE T fs b = 0) (ho : oldB [p0, p1, p2, p3, p4, p5, p6, p7, p8, p9] T = true) : Calls Tryz.prog 24 #[.agg #[.int .i64 T, .slice a fs.length c, .slice ab b.length cb], .agg #[.int .i64 p0, .int .i64 p1, .int .i64 p2, .int .i64 p3, .int .i64 p4, .int .i64 p5, .int .i64 p6, .int .i64 p7, .int .i64 p8, .int .i64 p9]] w (RwRes w (adE T fs b [p0, p1, p2, p3, p4, p5, p6, p7, p8, p9]) (adT T fs b [p0, p1, p2, p3, p4, p5, p6, p7, p8, p9]) (adF T fs b [p0, p1, p2, p3, p4, p5, p6, p7, p8, p9]) (adB T fs b [p0, p1, p2, p3, p4, p5, p6, p7, p8, p9])) := by
  have hE : adE T fs b [p0, p1, p2, p3, p4, p5, p6, p7, p8, p9] = 4 := by unfold adE orE; rw [if_pos hw, if_pos ho]
  have h0 : (4 : Int) ≠ 0 := by decide
  have FIN := Lib.hid (fun w' (k : Kpt w w') => rwRes_E (T := T) (fs := fs) (b := b) (l := [p0, p1, p2, p3, p4, p5, p6, p7, p8, p9]) (E := 4) hE h0 k)
  clear hE h0
  have ho' : p7 ≠ 0 ∨ p8 ≠ 0 ∨ p9 ≠ 0 ∨ T < p5 := of_decide_eq_true ho
  clear ho
  have WC := Lib.hid (fun w' (k : Kpt w w') => rwc_run T (.slice a fs.length c) (.slice ab b.length cb) fs b w' (hF.kpt k) (hb.kpt k))
  have HF := Lib.hid hF
  have HNil := Lib.hid hn
  have HB := Lib.hid hb
  clear hF hn hb
  obtain ⟨n, hn'⟩ : ∃ n, n = fs.length := ⟨_, rfl⟩
  rw [← hn'] at WC HF HNil ⊢
  have HN := Lib.hid hn'
  clear hn'
  have K3 : Hid (Kpt w (((w.alloc (.cells #[.int .i64 T, .slice a n c, .slice ab b.length cb] 31)).alloc (.cells #[.int .i64 p0, .int .i64 p1, .int .i64 p2, .int .i64 p3, .int .i64 p4, .int .i64 p5, .int .i64 p6, .int .i64 p7, .int .i64 p8, .int .i64 p9] 42)).alloc (.cells #[.int .i64 0, .slice none 0 0, .slice none 0 0] 31))) := (((Kpt.refl w).alloc _).alloc _).alloc _
  have B2 : Hid (Blk (((w.alloc (.cells #[.int .i64 T, .slice a n c, .slice ab b.length cb] 31)).alloc (.cells #[.int .i64 p0, .int .i64 p1, .int .i64 p2, .int .i64 p3, .int .i64 p4, .int .i64 p5, .int .i64 p6, .int .i64 p7, .int .i64 p8, .int .i64 p9] 42)).alloc (.cells #[.int .i64 0, .slice none 0 0, .slice none 0 0] 31)) w.heap.size #[.int .i64 T, .slice a n c, .slice ab b.length cb] 31) := ((Blk.made w _ _).alloc _).alloc _
  have B3 : Hid (Blk (((w.alloc (.cells #[.int .i64 T, .slice a n c, .slice ab b.length cb] 31)).alloc (.cells #[.int .i64 p0, .int .i64 p1, .int .i64 p2, .int .i64 p3, .int .i64 p4, .int .i64 p5, .int .i64 p6, .int .i64 p7, .int .i64 p8, .int .i64 p9] 42)).alloc (.cells #[.int .i64 0, .slice none 0 0, .slice none 0 0] 31)) (w.heap.size + 1) #[.int .i64 p0, .int .i64 p1, .int .i64 p2, .int .i64 p3, .int .i64 p4, .int .i64 p5, .int .i64 p6, .int .i64 p7, .int .i64 p8, .int .i64 p9] 42) := by
    have := Blk.made (w.alloc (.cells #[.int .i64 T, .slice a n c, .slice ab b.length cb] 31)) #[.int .i64 p0, .int .i64 p1, .int .i64 p2, .int .i64 p3, .int .i64 p4, .int .i64 p5, .int .i64 p6, .int .i64 p7, .int .i64 p8, .int .i64 p9] 42
    rw [World.size_alloc] at this
    exact this.alloc _
  have B4 : Hid (Blk (((w.alloc (.cells #[.int .i64 T, .slice a n c, .slice ab b.length cb] 31)).alloc (.cells #[.int .i64 p0, .int .i64 p1, .int .i64 p2, .int .i64 p3, .int .i64 p4, .int .i64 p5, .int .i64 p6, .int .i64 p7, .int .i64 p8, .int .i64 p9] 42)).alloc (.cells #[.int .i64 0, .slice none 0 0, .slice none 0 0] 31)) (w.heap.size + 2) #[.int .i64 0, .slice none 0 0, .slice none 0 0] 31) := by
    have := Blk.made ((w.alloc (.cells #[.int .i64 T, .slice a n c, .slice ab b.length cb] 31)).alloc (.cells #[.int .i64 p0, .int .i64 p1, .int .i64 p2, .int .i64 p3, .int .i64 p4, .int .i64 p5, .int .i64 p6, .int .i64 p7, .int .i64 p8, .int .i64 p9] 42)) #[.int .i64 0, .slice none 0 0, .slice none 0 0] 31
    rw [World.size_alloc, World.size_alloc] at this
    exact this
  rw [hw] at WC
  clear hw
  by_cases g7 : p7 = 0
  · have y7 : (p7 != 0) = false := by rw [g7]; rfl
    by_cases g8 : p8 = 0
    · have y8 : (p8 != 0) = false := by rw [g8]; rfl
      by_cases g9 : p9 = 0
      · have y9 : (p9 != 0) = false := by rw [g9]; rfl
        have y5 : decide (T < p5) = true := decide_eq_true (by omega)
        clear ho' g7 g8 g9
        go_enter Tryz.func24, Tryz.ntmps24
        go_wp2_with (first
          | (go_at_call 17; (with_reducible refine (WC.out _ K3.out).mono ?_); rintro z w1 ⟨rfl, kk⟩; have K1 : Hid (Kpt w w1) := ktr K3.out kk; have KW1 : Hid (Kpt (((w.alloc (.cells #[.int .i64 T, .slice a n c, .slice ab b.length cb] 31)).alloc (.cells #[.int .i64 p0, .int .i64 p1, .int .i64 p2, .int .i64 p3, .int .i64 p4, .int .i64 p5, .int .i64 p6, .int .i64 p7, .int .i64 p8, .int .i64 p9] 42)).alloc (.cells #[.int .i64 0, .slice none 0 0, .slice none 0 0] 31)) w1) := kk; have Z1 := Lib.hid (B4.out.kpt kk); have f5 : World.cell? w1 ⟨w.heap.size + 1, 5, none⟩ = some (.int .i64 p5) := (B3.out.kpt kk).cell 5; have f7 : World.cell? w1 ⟨w.heap.size + 1, 7, none⟩ = some (.int .i64 p7) := (B3.out.kpt kk).cell 7; have f8 : World.cell? w1 ⟨w.heap.size + 1, 8, none⟩ = some (.int .i64 p8) := (B3.out.kpt kk).cell 8; have f9 : World.cell? w1 ⟨w.heap.size + 1, 9, none⟩ = some (.int .i64 p9) := (B3.out.kpt kk).cell 9; have t0 : World.cell? w1 ⟨w.heap.size, 0, none⟩ = some (.int .i64 T) := (B2.out.kpt kk).cell 0; clear kk WC)
          | (refine wp_storeW rfl (.tmp 4) (.tmp 34) rfl (w.heap.size + 2) _ _ rfl rfl Z1.out rfl rfl (by simp [Value.oneCell']) ?_; intro w9 r9 k9 o9; have R9 := Lib.hid r9; have K9 : Hid (Kpt w w9) := k9 _ _ K1.out (by omega); have O9 := Lib.hid o9; clear r9 k9 o9)
          | fail)
        exact bodyPost_ret (v := .tuple #[.agg #[.int .i64 0, .slice none 0 0, .slice none 0 0], .int .i64 4]) (results_W2 Tryz.results24 _ _ _ _ _ rfl rfl R9.out rfl) rfl (FIN.out _ K9.out)
      · have y9 : (p9 != 0) = true := bne_iff_ne.2 g9
        clear ho' g7 g8 g9
        go_enter Tryz.func24, Tryz.ntmps24
        go_wp2_with (first
          | (go_at_call 17; (with_reducible refine (WC.out _ K3.out).mono ?_); rintro z w1 ⟨rfl, kk⟩; have K1 : Hid (Kpt w w1) := ktr K3.out kk; have KW1 : Hid (Kpt (((w.alloc (.cells #[.int .i64 T, .slice a n c, .slice ab b.length cb] 31)).alloc (.cells #[.int .i64 p0, .int .i64 p1, .int .i64 p2, .int .i64 p3, .int .i64 p4, .int .i64 p5, .int .i64 p6, .int .i64 p7, .int .i64 p8, .int .i64 p9] 42)).alloc (.cells #[.int .i64 0, .slice none 0 0, .slice none 0 0] 31)) w1) := kk; have Z1 := Lib.hid (B4.out.kpt kk); have f5 : World.cell? w1 ⟨w.heap.size + 1, 5, none⟩ = some (.int .i64 p5) := (B3.out.kpt kk).cell 5; have f7 : World.cell? w1 ⟨w.heap.size + 1, 7, none⟩ = some (.int .i64 p7) := (B3.out.kpt kk).cell 7; have f8 : World.cell? w1 ⟨w.heap.size + 1, 8, none⟩ = some (.int .i64 p8) := (B3.out.kpt kk).cell 8; have f9 : World.cell? w1 ⟨w.heap.size + 1, 9, none⟩ = some (.int .i64 p9) := (B3.out.kpt kk).cell 9; have t0 : World.cell? w1 ⟨w.heap.size, 0, none⟩ = some (.int .i64 T) := (B2.out.kpt kk).cell 0; clear kk WC)
          | (refine wp_storeW rfl (.tmp 4) (.tmp 34) rfl (w.heap.size + 2) _ _ rfl rfl Z1.out rfl rfl (by simp [Value.oneCell']) ?_; intro w9 r9 k9 o9; have R9 := Lib.hid r9; have K9 : Hid (Kpt w w9) := k9 _ _ K1.out (by omega); have O9 := Lib.hid o9; clear r9 k9 o9)
          | fail)
        exact bodyPost_ret (v := .tuple #[.agg #[.int .i64 0, .slice none 0 0, .slice none 0 0], .int .i64 4]) (results_W2 Tryz.results24 _ _ _ _ _ rfl rfl R9.out rfl) rfl (FIN.out _ K9.out)
    · have y8 : (p8 != 0) = true := bne_iff_ne.2 g8
      clear ho' g7 g8
      go_enter Tryz.func24, Tryz.ntmps24
      go_wp2_with (first
        | (go_at_call 17; (with_reducible refine (WC.out _ K3.out).mono ?_); rintro z w1 ⟨rfl, kk⟩; have K1 : Hid (Kpt w w1) := ktr K3.out kk; have KW1 : Hid (Kpt (((w.alloc (.cells #[.int .i64 T, .slice a n c, .slice ab b.length cb] 31)).alloc (.cells #[.int .i64 p0, .int .i64 p1, .int .i64 p2, .int .i64 p3, .int .i64 p4, .int .i64 p5, .int .i64 p6, .int .i64 p7, .int .i64 p8, .int .i64 p9] 42)).alloc (.cells #[.int .i64 0, .slice none 0 0, .slice none 0 0] 31)) w1) := kk; have Z1 := Lib.hid (B4.out.kpt kk); have f5 : World.cell? w1 ⟨w.heap.size + 1, 5, none⟩ = some (.int .i64 p5) := (B3.out.kpt kk).cell 5; have f7 : World.cell? w1 ⟨w.heap.size + 1, 7, none⟩ = some (.int .i64 p7) := (B3.out.kpt kk).cell 7; have f8 : World.cell? w1 ⟨w.heap.size + 1, 8, none⟩ = some (.int .i64 p8) := (B3.out.kpt kk).cell 8; have f9 : World.cell? w1 ⟨w.heap.size + 1, 9, none⟩ = some (.int .i64 p9) := (B3.out.kpt kk).cell 9; have t0 : World.cell? w1 ⟨w.heap.size, 0, none⟩ = some (.int .i64 T) := (B2.out.kpt kk).cell 0; clear kk WC)
        | (refine wp_storeW rfl (.tmp 4) (.tmp 34) rfl (w.heap.size + 2) _ _ rfl rfl Z1.out rfl rfl (by simp [Value.oneCell']) ?_; intro w9 r9 k9 o9; have R9 := Lib.hid r9; have K9 : Hid (Kpt w w9) := k9 _ _ K1.out (by omega); have O9 := Lib.hid o9; clear r9 k9 o9)
        | fail)
      exact bodyPost_ret (v := .tuple #[.agg #[.int .i64 0, .slice none 0 0, .slice none 0 0], .int .i64 4]) (results_W2 Tryz.results24 _ _ _ _ _ rfl rfl R9.out rfl) rfl (FIN.out _ K9.out)
  · have y7 : (p7 != 0) = true := bne_iff_ne.2 g7
    clear ho' g7
    go_enter Tryz.func24, Tryz.ntmps24
    go_wp2_with (first
      | (go_at_call 17; (with_reducible refine (WC.out _ K3.out).mono ?_); rintro z w1 ⟨rfl, kk⟩; have K1 : Hid (Kpt w w1) := ktr K3.out kk; have KW1 : Hid (Kpt (((w.alloc (.cells #[.int .i64 T, .slice a n c, .slice ab b.length cb] 31)).alloc (.cells #[.int .i64 p0, .int .i64 p1, .int .i64 p2, .int .i64 p3, .int .i64 p4, .int .i64 p5, .int .i64 p6, .int .i64 p7, .int .i64 p8, .int .i64 p9] 42)).alloc (.cells #[.int .i64 0, .slice none 0 0, .slice none 0 0] 31)) w1) := kk; have Z1 := Lib.hid (B4.out.kpt kk); have f5 : World.cell? w1 ⟨w.heap.size + 1, 5, none⟩ = some (.int .i64 p5) := (B3.out.kpt kk).cell 5; have f7 : World.cell? w1 ⟨w.heap.size + 1, 7, none⟩ = some (.int .i64 p7) := (B3.out.kpt kk).cell 7; have f8 : World.cell? w1 ⟨w.heap.size + 1, 8, none⟩ = some (.int .i64 p8) := (B3.out.kpt kk).cell 8; have f9 : World.cell? w1 ⟨w.heap.size + 1, 9, none⟩ = some (.int .i64 p9) := (B3.out.kpt kk).cell 9; have t0 : World.cell? w1 ⟨w.heap.size, 0, none⟩ = some (.int .i64 T) := (B2.out.kpt kk).cell 0; clear kk WC)
      | (refine wp_storeW rfl (.tmp 4) (.tmp 34) rfl (w.heap.size + 2) _ _ rfl rfl Z1.out rfl rfl (by simp [Value.oneCell']) ?_; intro w9 r9 k9 o9; have R9 := Lib.hid r9; have K9 : Hid (Kpt w w9) := k9 _ _ K1.out (by omega); have O9 := Lib.hid o9; clear r9 k9 o9)
      | fail)
    exact bodyPost_ret (v := .tuple #[.agg #[.int .i64 0, .slice none 0 0, .slice none 0 0], .int .i64 4]) (results_W2 Tryz.results24 _ _ _ _ _ rfl rfl R9.out rfl) rfl (FIN.out _ K9.out)
set_option maxRecDepth 100000 in
set_option maxHeartbeats 4000000 in
theorem radd_new (T p0 p1 p2 p3 p4 p5 p6 p7 p8 p9 : Int) (a : Option Addr) (c : Nat) (ab : Option Addr) (cb : Nat) (fs : List (List Int)) (b : List (Int × Int × Int)) (w : World) (hF : ReadsF w (.slice a fs.length c) fs) (hn : NilC (.slice a fs.length c)) (hb : ReadsP w (.slice ab b.length cb) b) (hw : wldE T fs b = 0) (ho : oldB [p0, p1, p2, p3, p4, p5, p6, p7, p8, p9] T = false) (fp : FlB [p0, p1, p2, p3, p4, p5, p6, p7, p8, p9]) : Calls Tryz.prog 24 #[.agg #[.int .i64 T, .slice a fs.length c, .slice ab b.length cb], .agg #[.int .i64 p0, .int .i64 p1, .int .i64 p2, .int .i64 p3, .int .i64 p4, .int .i64 p5, .int .i64 p6, .int .i64 p7, .int .i64 p8, .int .i64 p9]] w (RwRes w (adE T fs b [p0, p1, p2, p3, p4, p5, p6, p7, p8, p9]) (adT T fs b [p0, p1, p2, p3, p4, p5, p6, p7, p8, p9]) (adF T fs b [p0, p1, p2, p3, p4, p5, p6, p7, p8, p9]) (adB T fs b [p0, p1, p2, p3, p4, p5, p6, p7, p8, p9])) := by
  have hfs : ∀ l ∈ fs, FlB l := by obtain ⟨_, _, _, _, h, _⟩ := hF; exact h
  have ho' : ¬ (p7 ≠ 0 ∨ p8 ≠ 0 ∨ p9 ≠ 0 ∨ T < p5) := of_decide_eq_false ho
  have y7 : (p7 != 0) = false := by rw [show p7 = 0 by omega]; rfl
  have y8 : (p8 != 0) = false := by rw [show p8 = 0 by omega]; rfl
  have y9 : (p9 != 0) = false := by rw [show p9 = 0 by omega]; rfl
  have y5 : decide (T < p5) = false := decide_eq_false (by omega)
  have l60 := ck60 (wld_0 hw).2.1
  have HE : Hid (adE T fs b [p0, p1, p2, p3, p4, p5, p6, p7, p8, p9] = checksE (fs ++ [[p0, p1, p2, p3, p4, p5, p6, p7, p8, p9]])) := by unfold Hid adE orE; rw [if_pos hw, ho, if_neg (by decide)]
  clear ho ho'
  have FB : Hid (∀ l ∈ fs ++ [[p0, p1, p2, p3, p4, p5, p6, p7, p8, p9]], FlB l) := fun l hl => by
    rcases List.mem_append.1 hl with h | h
    · exact hfs l h
    · rw [List.mem_singleton.1 h]; exact fp
  have FP := Lib.hid fp
  clear hfs fp
  have WC := Lib.hid (fun w' (k : Kpt w w') => rwc_run T (.slice a fs.length c) (.slice ab b.length cb) fs b w' (hF.kpt k) (hb.kpt k))
  have HF := Lib.hid hF
  have HNil := Lib.hid hn
  have HB := Lib.hid hb
  clear hF hn hb
  obtain ⟨n, hn'⟩ : ∃ n, n = fs.length := ⟨_, rfl⟩
  rw [← hn'] at WC HF HNil l60 ⊢
  have HN := Lib.hid hn'
  clear hn'
  have K3 : Hid (Kpt w (((w.alloc (.cells #[.int .i64 T, .slice a n c, .slice ab b.length cb] 31)).alloc (.cells #[.int .i64 p0, .int .i64 p1, .int .i64 p2, .int .i64 p3, .int .i64 p4, .int .i64 p5, .int .i64 p6, .int .i64 p7, .int .i64 p8, .int .i64 p9] 42)).alloc (.cells #[.int .i64 0, .slice none 0 0, .slice none 0 0] 31))) := (((Kpt.refl w).alloc _).alloc _).alloc _
  have B2 : Hid (Blk (((w.alloc (.cells #[.int .i64 T, .slice a n c, .slice ab b.length cb] 31)).alloc (.cells #[.int .i64 p0, .int .i64 p1, .int .i64 p2, .int .i64 p3, .int .i64 p4, .int .i64 p5, .int .i64 p6, .int .i64 p7, .int .i64 p8, .int .i64 p9] 42)).alloc (.cells #[.int .i64 0, .slice none 0 0, .slice none 0 0] 31)) w.heap.size #[.int .i64 T, .slice a n c, .slice ab b.length cb] 31) := ((Blk.made w _ _).alloc _).alloc _
  have B3 : Hid (Blk (((w.alloc (.cells #[.int .i64 T, .slice a n c, .slice ab b.length cb] 31)).alloc (.cells #[.int .i64 p0, .int .i64 p1, .int .i64 p2, .int .i64 p3, .int .i64 p4, .int .i64 p5, .int .i64 p6, .int .i64 p7, .int .i64 p8, .int .i64 p9] 42)).alloc (.cells #[.int .i64 0, .slice none 0 0, .slice none 0 0] 31)) (w.heap.size + 1) #[.int .i64 p0, .int .i64 p1, .int .i64 p2, .int .i64 p3, .int .i64 p4, .int .i64 p5, .int .i64 p6, .int .i64 p7, .int .i64 p8, .int .i64 p9] 42) := by
    have := Blk.made (w.alloc (.cells #[.int .i64 T, .slice a n c, .slice ab b.length cb] 31)) #[.int .i64 p0, .int .i64 p1, .int .i64 p2, .int .i64 p3, .int .i64 p4, .int .i64 p5, .int .i64 p6, .int .i64 p7, .int .i64 p8, .int .i64 p9] 42
    rw [World.size_alloc] at this
    exact this.alloc _
  have B4 : Hid (Blk (((w.alloc (.cells #[.int .i64 T, .slice a n c, .slice ab b.length cb] 31)).alloc (.cells #[.int .i64 p0, .int .i64 p1, .int .i64 p2, .int .i64 p3, .int .i64 p4, .int .i64 p5, .int .i64 p6, .int .i64 p7, .int .i64 p8, .int .i64 p9] 42)).alloc (.cells #[.int .i64 0, .slice none 0 0, .slice none 0 0] 31)) (w.heap.size + 2) #[.int .i64 0, .slice none 0 0, .slice none 0 0] 31) := by
    have := Blk.made ((w.alloc (.cells #[.int .i64 T, .slice a n c, .slice ab b.length cb] 31)).alloc (.cells #[.int .i64 p0, .int .i64 p1, .int .i64 p2, .int .i64 p3, .int .i64 p4, .int .i64 p5, .int .i64 p6, .int .i64 p7, .int .i64 p8, .int .i64 p9] 42)) #[.int .i64 0, .slice none 0 0, .slice none 0 0] 31
    rw [World.size_alloc, World.size_alloc] at this
    exact this
  have HL : Hid (n ≤ 60) := l60
  rw [hw] at WC
  clear hw l60
  by_cases h9 : checksE (fs ++ [[p0, p1, p2, p3, p4, p5, p6, p7, p8, p9]]) = 0
  · have e0 := HE.out.trans h9
    have q1 : adT T fs b [p0, p1, p2, p3, p4, p5, p6, p7, p8, p9] = T := if_pos e0
    have q2 : adF T fs b [p0, p1, p2, p3, p4, p5, p6, p7, p8, p9] = fs ++ [[p0, p1, p2, p3, p4, p5, p6, p7, p8, p9]] := if_pos e0
    have q3 : adB T fs b [p0, p1, p2, p3, p4, p5, p6, p7, p8, p9] = b := if_pos e0
    rw [e0, q1, q2, q3]
    clear e0 q1 q2 q3 HE
    go_enter Tryz.func24, Tryz.ntmps24
    go_upto_region 6 with (first
      | (go_at_call 17; (with_reducible refine (WC.out _ K3.out).mono ?_); rintro z w1 ⟨rfl, kk⟩; have K1 : Hid (Kpt w w1) := ktr K3.out kk; have KW1 : Hid (Kpt (((w.alloc (.cells #[.int .i64 T, .slice a n c, .slice ab b.length cb] 31)).alloc (.cells #[.int .i64 p0, .int .i64 p1, .int .i64 p2, .int .i64 p3, .int .i64 p4, .int .i64 p5, .int .i64 p6, .int .i64 p7, .int .i64 p8, .int .i64 p9] 42)).alloc (.cells #[.int .i64 0, .slice none 0 0, .slice none 0 0] 31)) w1) := kk; have Z1 := Lib.hid (B4.out.kpt kk); have f0 : World.cell? w1 ⟨w.heap.size + 1, 0, none⟩ = some (.int .i64 p0) := (B3.out.kpt kk).cell 0; have f1 : World.cell? w1 ⟨w.heap.size + 1, 1, none⟩ = some (.int .i64 p1) := (B3.out.kpt kk).cell 1; have f2 : World.cell? w1 ⟨w.heap.size + 1, 2, none⟩ = some (.int .i64 p2) := (B3.out.kpt kk).cell 2; have f3 : World.cell? w1 ⟨w.heap.size + 1, 3, none⟩ = some (.int .i64 p3) := (B3.out.kpt kk).cell 3; have f4 : World.cell? w1 ⟨w.heap.size + 1, 4, none⟩ = some (.int .i64 p4) := (B3.out.kpt kk).cell 4; have f5 : World.cell? w1 ⟨w.heap.size + 1, 5, none⟩ = some (.int .i64 p5) := (B3.out.kpt kk).cell 5; have f6 : World.cell? w1 ⟨w.heap.size + 1, 6, none⟩ = some (.int .i64 p6) := (B3.out.kpt kk).cell 6; have f7 : World.cell? w1 ⟨w.heap.size + 1, 7, none⟩ = some (.int .i64 p7) := (B3.out.kpt kk).cell 7; have f8 : World.cell? w1 ⟨w.heap.size + 1, 8, none⟩ = some (.int .i64 p8) := (B3.out.kpt kk).cell 8; have f9 : World.cell? w1 ⟨w.heap.size + 1, 9, none⟩ = some (.int .i64 p9) := (B3.out.kpt kk).cell 9; have t0 : World.cell? w1 ⟨w.heap.size, 0, none⟩ = some (.int .i64 T) := (B2.out.kpt kk).cell 0; have t1 : World.cell? w1 ⟨w.heap.size, 1, none⟩ = some (.slice a n c) := (B2.out.kpt kk).cell 1; clear kk WC)
      | fail)
    go_cut [7] from 35 to 42 (fun v wc => ∃ g cap, v = .slice (some ⟨g, 0, none⟩) (n + 1) cap ∧ Hid (OwnsN 10 42 wc 0 (.slice (some ⟨g, 0, none⟩) (n + 1) cap) (fs ++ [[p0, p1, p2, p3, p4, p5, p6, p7, p8, p9]])) ∧ Hid (Kpt w1 wc))
    case first =>
      have SK : Hid (∀ w', Kpt w1 w' → World.cell? w' ⟨w.heap.size, 1, none⟩ = some (.slice a n c) ∧ World.cell? w' ⟨w.heap.size + 1, 0, none⟩ = some (.int .i64 p0) ∧ World.cell? w' ⟨w.heap.size + 1, 1, none⟩ = some (.int .i64 p1) ∧ World.cell? w' ⟨w.heap.size + 1, 2, none⟩ = some (.int .i64 p2) ∧ World.cell? w' ⟨w.heap.size + 1, 3, none⟩ = some (.int .i64 p3) ∧ World.cell? w' ⟨w.heap.size + 1, 4, none⟩ = some (.int .i64 p4) ∧ World.cell? w' ⟨w.heap.size + 1, 5, none⟩ = some (.int .i64 p5) ∧ World.cell? w' ⟨w.heap.size + 1, 6, none⟩ = some (.int .i64 p6) ∧ World.cell? w' ⟨w.heap.size + 1, 7, none⟩ = some (.int .i64 p7) ∧ World.cell? w' ⟨w.heap.size + 1, 8, none⟩ = some (.int .i64 p8) ∧ World.cell? w' ⟨w.heap.size + 1, 9, none⟩ = some (.int .i64 p9)) := fun w' k => by
        have k' := ktr KW1.out k
        exact ⟨(B2.out.kpt k').cell 1, (B3.out.kpt k').cell 0, (B3.out.kpt k').cell 1, (B3.out.kpt k').cell 2, (B3.out.kpt k').cell 3, (B3.out.kpt k').cell 4, (B3.out.kpt k').cell 5, (B3.out.kpt k').cell 6, (B3.out.kpt k').cell 7, (B3.out.kpt k').cell 8, (B3.out.kpt k').cell 9⟩
      have HFw : Hid (∀ w', Kpt w1 w' → ReadsF w' (.slice a n c) fs) := fun w' k => HF.out.kpt (ktr K1.out k)
      have oa : Hid (OwnsN 10 42 ((w1.alloc (.cells #[.int .i64 p0, .int .i64 p1, .int .i64 p2, .int .i64 p3, .int .i64 p4, .int .i64 p5, .int .i64 p6, .int .i64 p7, .int .i64 p8, .int .i64 p9] 42)).alloc (.cells #[] 42)).drew w1.heap.size (.slice (some ⟨w1.heap.size + 1, 0, none⟩) 0 0) []) := by
        have := OwnsN.empty 10 42 (w1.alloc (.cells #[.int .i64 p0, .int .i64 p1, .int .i64 p2, .int .i64 p3, .int .i64 p4, .int .i64 p5, .int .i64 p6, .int .i64 p7, .int .i64 p8, .int .i64 p9] 42)) w1.heap.size (by simp)
        rw [World.size_alloc] at this
        exact OwnsN.kpt this (show Kpt _ ((w1.alloc (.cells #[.int .i64 p0, .int .i64 p1, .int .i64 p2, .int .i64 p3, .int .i64 p4, .int .i64 p5, .int .i64 p6, .int .i64 p7, .int .i64 p8, .int .i64 p9] 42)).alloc (.cells #[] 42)).drew from Below.drew (Kpt.refl _))
      have ob : Hid (OwnsN 10 42 ((w1.alloc (.cells #[] 42)).alloc (.cells #[.int .i64 p0, .int .i64 p1, .int .i64 p2, .int .i64 p3, .int .i64 p4, .int .i64 p5, .int .i64 p6, .int .i64 p7, .int .i64 p8, .int .i64 p9] 42)).drew w1.heap.size (.slice (some ⟨w1.heap.size, 0, none⟩) 0 0) []) := OwnsN.kpt (OwnsN.empty 10 42 w1 w1.heap.size (Nat.le_refl _)) (show Kpt _ ((w1.alloc (.cells #[] 42)).alloc (.cells #[.int .i64 p0, .int .i64 p1, .int .i64 p2, .int .i64 p3, .int .i64 p4, .int .i64 p5, .int .i64 p6, .int .i64 p7, .int .i64 p8, .int .i64 p9] 42)).drew from Below.drew ((Kpt.refl _).alloc _))
      have oc : Hid (OwnsN 10 42 (w1.alloc (.cells #[] 42)).drew w1.heap.size (.slice (some ⟨w1.heap.size, 0, none⟩) 0 0) []) := OwnsN.kpt (OwnsN.empty 10 42 w1 w1.heap.size (Nat.le_refl _)) (show Kpt _ (w1.alloc (.cells #[] 42)).drew from Below.drew (Kpt.refl _))
      have ka : Hid (Kpt w1 ((w1.alloc (.cells #[.int .i64 p0, .int .i64 p1, .int .i64 p2, .int .i64 p3, .int .i64 p4, .int .i64 p5, .int .i64 p6, .int .i64 p7, .int .i64 p8, .int .i64 p9] 42)).alloc (.cells #[] 42)).drew) := Below.drew (((Kpt.refl w1).alloc _).alloc _)
      have kb : Hid (Kpt w1 ((w1.alloc (.cells #[] 42)).alloc (.cells #[.int .i64 p0, .int .i64 p1, .int .i64 p2, .int .i64 p3, .int .i64 p4, .int .i64 p5, .int .i64 p6, .int .i64 p7, .int .i64 p8, .int .i64 p9] 42)).drew) := Below.drew (((Kpt.refl w1).alloc _).alloc _)
      have kc : Hid (Kpt w1 (w1.alloc (.cells #[] 42)).drew) := Below.drew ((Kpt.refl w1).alloc _)
      have ba : Hid (Blk ((w1.alloc (.cells #[.int .i64 p0, .int .i64 p1, .int .i64 p2, .int .i64 p3, .int .i64 p4, .int .i64 p5, .int .i64 p6, .int .i64 p7, .int .i64 p8, .int .i64 p9] 42)).alloc (.cells #[] 42)).drew w1.heap.size #[.int .i64 p0, .int .i64 p1, .int .i64 p2, .int .i64 p3, .int .i64 p4, .int .i64 p5, .int .i64 p6, .int .i64 p7, .int .i64 p8, .int .i64 p9] 42) := ((Blk.made w1 #[.int .i64 p0, .int .i64 p1, .int .i64 p2, .int .i64 p3, .int .i64 p4, .int .i64 p5, .int .i64 p6, .int .i64 p7, .int .i64 p8, .int .i64 p9] 42).alloc _).drew
      have bb : Hid (Blk ((w1.alloc (.cells #[] 42)).alloc (.cells #[.int .i64 p0, .int .i64 p1, .int .i64 p2, .int .i64 p3, .int .i64 p4, .int .i64 p5, .int .i64 p6, .int .i64 p7, .int .i64 p8, .int .i64 p9] 42)).drew (w1.heap.size + 1) #[.int .i64 p0, .int .i64 p1, .int .i64 p2, .int .i64 p3, .int .i64 p4, .int .i64 p5, .int .i64 p6, .int .i64 p7, .int .i64 p8, .int .i64 p9] 42) := by
        have := Blk.made (w1.alloc (.cells #[] 42)) #[.int .i64 p0, .int .i64 p1, .int .i64 p2, .int .i64 p3, .int .i64 p4, .int .i64 p5, .int .i64 p6, .int .i64 p7, .int .i64 p8, .int .i64 p9] 42
        rw [World.size_alloc] at this
        exact this.drew
      have lenR : ([] : List (List Int)).length + fs.length ≤ 100000 := by have h1 : _ ≤ 60 := HL.out; have h2 : n = fs.length := HN.out; simp; omega
      have lenT : fs.length + [[p0, p1, p2, p3, p4, p5, p6, p7, p8, p9]].length ≤ 100000 := by have h1 : _ ≤ 60 := HL.out; have h2 : n = fs.length := HN.out; simp; omega
      have lenU : Hid (n + 1 = fs.length + [[p0, p1, p2, p3, p4, p5, p6, p7, p8, p9]].length) := Lib.hid <| by have h2 : n = fs.length := HN.out; simp; omega
      go_region_held3 (fun w' => World.cell? w' ⟨w.heap.size, 1, none⟩ = some (.slice a n c) ∧ World.cell? w' ⟨w.heap.size + 1, 0, none⟩ = some (.int .i64 p0) ∧ World.cell? w' ⟨w.heap.size + 1, 1, none⟩ = some (.int .i64 p1) ∧ World.cell? w' ⟨w.heap.size + 1, 2, none⟩ = some (.int .i64 p2) ∧ World.cell? w' ⟨w.heap.size + 1, 3, none⟩ = some (.int .i64 p3) ∧ World.cell? w' ⟨w.heap.size + 1, 4, none⟩ = some (.int .i64 p4) ∧ World.cell? w' ⟨w.heap.size + 1, 5, none⟩ = some (.int .i64 p5) ∧ World.cell? w' ⟨w.heap.size + 1, 6, none⟩ = some (.int .i64 p6) ∧ World.cell? w' ⟨w.heap.size + 1, 7, none⟩ = some (.int .i64 p7) ∧ World.cell? w' ⟨w.heap.size + 1, 8, none⟩ = some (.int .i64 p8) ∧ World.cell? w' ⟨w.heap.size + 1, 9, none⟩ = some (.int .i64 p9))
        (first
          | go_keep
          | (exact SK.out _ KA2.out)
          | (exact SK.out _ KA1.out)
          | (exact SK.out _ ka.out)
          | (exact SK.out _ kb.out)
          | (exact SK.out _ kc.out)
          | fail)
        (first
        | (refine step_appendFs (by rfl) _ _ (by rfl) w1.heap.size (w1.heap.size + 1) 0 0 (.slice a n c) [] fs (by rfl) oa.out (by rfl) (HFw.out _ ka.out) HNil.out lenR (Below.size ka.out) n fs (by simp; exact HN.out) rfl ?_; rintro gg cap wa o1 g1 qe; have O1 := Lib.hid o1; have KA1 := Lib.hid (kp_grown ka.out (by omega) g1); have GE1 : Hid (w1.heap.size ≤ gg) := Lib.hid qe; have XB := Lib.hid (blk_grown2 ba.out (by omega) g1); clear o1 g1 qe)
        | (refine step_appendFs (by rfl) _ _ (by rfl) w1.heap.size w1.heap.size 0 0 (.slice a n c) [] fs (by rfl) ob.out (by rfl) (HFw.out _ kb.out) HNil.out lenR (Below.size kb.out) n fs (by simp; exact HN.out) rfl ?_; rintro gg cap wa o1 g1 qe; have O1 := Lib.hid o1; have KA1 := Lib.hid (kp_grown kb.out (by omega) g1); have GE1 : Hid (w1.heap.size ≤ gg) := Lib.hid qe; have XB := Lib.hid (blk_grown2 bb.out (by omega) g1); clear o1 g1 qe)
        | (refine step_appendFs (by rfl) _ _ (by rfl) w1.heap.size w1.heap.size 0 0 (.slice a n c) [] fs (by rfl) oc.out (by rfl) (HFw.out _ kc.out) HNil.out lenR (Below.size kc.out) n fs (by simp; exact HN.out) rfl ?_; rintro gg cap wa o1 g1 qe; have O1 := Lib.hid o1; have KA1 := Lib.hid (kp_grown kc.out (by omega) g1); have GE1 : Hid (w1.heap.size ≤ gg) := Lib.hid qe; have XC1 := Lib.hid (Blk.made wa #[.int .i64 p0, .int .i64 p1, .int .i64 p2, .int .i64 p3, .int .i64 p4, .int .i64 p5, .int .i64 p6, .int .i64 p7, .int .i64 p8, .int .i64 p9] 42); clear o1 g1 qe)
        | (refine step_appendFs (by rfl) _ _ (by rfl) 0 gg n cap _ fs [[p0, p1, p2, p3, p4, p5, p6, p7, p8, p9]] (by rfl) (Joins.ownsRow_le O1.out (Nat.zero_le _)) (by rfl) (rf_one1 XB.out rfl FP.out) rn_some lenT (Nat.zero_le _) (n + 1) (fs ++ [[p0, p1, p2, p3, p4, p5, p6, p7, p8, p9]]) lenU.out rfl ?_; rintro gg2 cap2 wz o2 g2 -; have O2 := Lib.hid o2; have KA2 := Lib.hid (kp_grown KA1.out GE1.out g2); clear o2 g2)
        | (refine step_appendFs (by rfl) _ _ (by rfl) 0 gg n cap _ fs [[p0, p1, p2, p3, p4, p5, p6, p7, p8, p9]] (by rfl) (Joins.ownsRow_le (OwnsN.kpt O1.out ((Kpt.refl _).alloc _)) (Nat.zero_le _)) (by rfl) (rf_one1 XC1.out rfl FP.out) rn_some lenT (Nat.zero_le _) (n + 1) (fs ++ [[p0, p1, p2, p3, p4, p5, p6, p7, p8, p9]]) lenU.out rfl ?_; rintro gg2 cap2 wz o2 g2 -; have O2 := Lib.hid o2; have KA2 := Lib.hid (kp_grown (KA1.out.alloc _) GE1.out g2); clear o2 g2)
        | fail)
      all_goals go_wp2
      all_goals go_meet
      all_goals (case rel => exact ⟨_, _, rfl, O2.out, KA2.out⟩)
    case rest =>
    obtain ⟨gz, cz, rfl, oz, kz⟩ := hcut
    have K7 : Hid (Kpt w wc) := ktr K1.out kz.out
    have KW7 : Hid (Kpt (((w.alloc (.cells #[.int .i64 T, .slice a n c, .slice ab b.length cb] 31)).alloc (.cells #[.int .i64 p0, .int .i64 p1, .int .i64 p2, .int .i64 p3, .int .i64 p4, .int .i64 p5, .int .i64 p6, .int .i64 p7, .int .i64 p8, .int .i64 p9] 42)).alloc (.cells #[.int .i64 0, .slice none 0 0, .slice none 0 0] 31)) wc) := ktr KW1.out kz.out
    have RZ : Hid (ReadsF wc (.slice (some ⟨gz, 0, none⟩) (n + 1) cz) (fs ++ [[p0, p1, p2, p3, p4, p5, p6, p7, p8, p9]])) := OwnsN.readsF oz.out FB.out
    have CK := Lib.hid (rfcs_run _ _ wc RZ.out)
    clear FP HNil
    rw [h9] at CK
    clear h9
    go_wp2_with (first
      | (go_at_call 58; (with_reducible refine CK.out.mono ?_); rintro z w8 ⟨rfl, kk⟩; have K8 : Hid (Kpt w w8) := ktr K7.out kk; have KK8 : Hid (Kpt wc w8) := kk; have Z8 := Lib.hid (B4.out.kpt (ktr KW7.out kk)); have r0 : World.cell? w8 ⟨w.heap.size, 0, none⟩ = some (.int .i64 T) := (B2.out.kpt (ktr KW7.out kk)).cell 0; have r2 : World.cell? w8 ⟨w.heap.size, 2, none⟩ = some (.slice ab b.length cb) := (B2.out.kpt (ktr KW7.out kk)).cell 2; clear kk CK)
      | (refine wp_storeW rfl (.tmp 4) (.tmp 53) rfl (w.heap.size + 2) _ _ rfl rfl Z8.out rfl rfl (by simp [Value.oneCell']) ?_; intro w9 r9 k9 o9; have R9 := Lib.hid r9; have K9 : Hid (Kpt w w9) := k9 _ _ K8.out (by omega); have RZ9 : ReadsF w9 (.slice (some ⟨gz, 0, none⟩) (n + 1) cz) (fs ++ [[p0, p1, p2, p3, p4, p5, p6, p7, p8, p9]]) := OwnsN.readsF (row_put (row_kpt oz.out KK8.out) Z8.out o9 (by decide)) FB.out; clear r9 k9 o9)
      | fail)
    exact bodyPost_ret (v := .tuple #[.agg #[.int .i64 T, .slice (some ⟨gz, 0, none⟩) (n + 1) cz, .slice ab b.length cb], .int .i64 0]) (results_W2 Tryz.results24 _ _ _ _ _ rfl rfl R9.out rfl) rfl ⟨_, _, rfl, ⟨RZ9, _, _, _, rfl⟩, ⟨HB.out.kpt K9.out, _, _, _, rfl⟩, K9.out⟩
  · have z0 : (checksE (fs ++ [[p0, p1, p2, p3, p4, p5, p6, p7, p8, p9]]) != 0) = true := bne_iff_ne.2 h9
    have FIN := Lib.hid (fun w' (k : Kpt w w') => rwRes_E (T := T) (fs := fs) (b := b) (l := [p0, p1, p2, p3, p4, p5, p6, p7, p8, p9]) HE.out h9 k)
    clear HE
    go_enter Tryz.func24, Tryz.ntmps24
    go_upto_region 6 with (first
      | (go_at_call 17; (with_reducible refine (WC.out _ K3.out).mono ?_); rintro z w1 ⟨rfl, kk⟩; have K1 : Hid (Kpt w w1) := ktr K3.out kk; have KW1 : Hid (Kpt (((w.alloc (.cells #[.int .i64 T, .slice a n c, .slice ab b.length cb] 31)).alloc (.cells #[.int .i64 p0, .int .i64 p1, .int .i64 p2, .int .i64 p3, .int .i64 p4, .int .i64 p5, .int .i64 p6, .int .i64 p7, .int .i64 p8, .int .i64 p9] 42)).alloc (.cells #[.int .i64 0, .slice none 0 0, .slice none 0 0] 31)) w1) := kk; have Z1 := Lib.hid (B4.out.kpt kk); have f0 : World.cell? w1 ⟨w.heap.size + 1, 0, none⟩ = some (.int .i64 p0) := (B3.out.kpt kk).cell 0; have f1 : World.cell? w1 ⟨w.heap.size + 1, 1, none⟩ = some (.int .i64 p1) := (B3.out.kpt kk).cell 1; have f2 : World.cell? w1 ⟨w.heap.size + 1, 2, none⟩ = some (.int .i64 p2) := (B3.out.kpt kk).cell 2; have f3 : World.cell? w1 ⟨w.heap.size + 1, 3, none⟩ = some (.int .i64 p3) := (B3.out.kpt kk).cell 3; have f4 : World.cell? w1 ⟨w.heap.size + 1, 4, none⟩ = some (.int .i64 p4) := (B3.out.kpt kk).cell 4; have f5 : World.cell? w1 ⟨w.heap.size + 1, 5, none⟩ = some (.int .i64 p5) := (B3.out.kpt kk).cell 5; have f6 : World.cell? w1 ⟨w.heap.size + 1, 6, none⟩ = some (.int .i64 p6) := (B3.out.kpt kk).cell 6; have f7 : World.cell? w1 ⟨w.heap.size + 1, 7, none⟩ = some (.int .i64 p7) := (B3.out.kpt kk).cell 7; have f8 : World.cell? w1 ⟨w.heap.size + 1, 8, none⟩ = some (.int .i64 p8) := (B3.out.kpt kk).cell 8; have f9 : World.cell? w1 ⟨w.heap.size + 1, 9, none⟩ = some (.int .i64 p9) := (B3.out.kpt kk).cell 9; have t0 : World.cell? w1 ⟨w.heap.size, 0, none⟩ = some (.int .i64 T) := (B2.out.kpt kk).cell 0; have t1 : World.cell? w1 ⟨w.heap.size, 1, none⟩ = some (.slice a n c) := (B2.out.kpt kk).cell 1; clear kk WC)
      | fail)
    go_cut [7] from 35 to 42 (fun v wc => ∃ g cap, v = .slice (some ⟨g, 0, none⟩) (n + 1) cap ∧ Hid (OwnsN 10 42 wc 0 (.slice (some ⟨g, 0, none⟩) (n + 1) cap) (fs ++ [[p0, p1, p2, p3, p4, p5, p6, p7, p8, p9]])) ∧ Hid (Kpt w1 wc))
    case first =>
      have SK : Hid (∀ w', Kpt w1 w' → World.cell? w' ⟨w.heap.size, 1, none⟩ = some (.slice a n c) ∧ World.cell? w' ⟨w.heap.size + 1, 0, none⟩ = some (.int .i64 p0) ∧ World.cell? w' ⟨w.heap.size + 1, 1, none⟩ = some (.int .i64 p1) ∧ World.cell? w' ⟨w.heap.size + 1, 2, none⟩ = some (.int .i64 p2) ∧ World.cell? w' ⟨w.heap.size + 1, 3, none⟩ = some (.int .i64 p3) ∧ World.cell? w' ⟨w.heap.size + 1, 4, none⟩ = some (.int .i64 p4) ∧ World.cell? w' ⟨w.heap.size + 1, 5, none⟩ = some (.int .i64 p5) ∧ World.cell? w' ⟨w.heap.size + 1, 6, none⟩ = some (.int .i64 p6) ∧ World.cell? w' ⟨w.heap.size + 1, 7, none⟩ = some (.int .i64 p7) ∧ World.cell? w' ⟨w.heap.size + 1, 8, none⟩ = some (.int .i64 p8) ∧ World.cell? w' ⟨w.heap.size + 1, 9, none⟩ = some (.int .i64 p9)) := fun w' k => by
        have k' := ktr KW1.out k
        exact ⟨(B2.out.kpt k').cell 1, (B3.out.kpt k').cell 0, (B3.out.kpt k').cell 1, (B3.out.kpt k').cell 2, (B3.out.kpt k').cell 3, (B3.out.kpt k').cell 4, (B3.out.kpt k').cell 5, (B3.out.kpt k').cell 6, (B3.out.kpt k').cell 7, (B3.out.kpt k').cell 8, (B3.out.kpt k').cell 9⟩
      have HFw : Hid (∀ w', Kpt w1 w' → ReadsF w' (.slice a n c) fs) := fun w' k => HF.out.kpt (ktr K1.out k)
      have oa : Hid (OwnsN 10 42 ((w1.alloc (.cells #[.int .i64 p0, .int .i64 p1, .int .i64 p2, .int .i64 p3, .int .i64 p4, .int .i64 p5, .int .i64 p6, .int .i64 p7, .int .i64 p8, .int .i64 p9] 42)).alloc (.cells #[] 42)).drew w1.heap.size (.slice (some ⟨w1.heap.size + 1, 0, none⟩) 0 0) []) := by
        have := OwnsN.empty 10 42 (w1.alloc (.cells #[.int .i64 p0, .int .i64 p1, .int .i64 p2, .int .i64 p3, .int .i64 p4, .int .i64 p5, .int .i64 p6, .int .i64 p7, .int .i64 p8, .int .i64 p9] 42)) w1.heap.size (by simp)
        rw [World.size_alloc] at this
        exact OwnsN.kpt this (show Kpt _ ((w1.alloc (.cells #[.int .i64 p0, .int .i64 p1, .int .i64 p2, .int .i64 p3, .int .i64 p4, .int .i64 p5, .int .i64 p6, .int .i64 p7, .int .i64 p8, .int .i64 p9] 42)).alloc (.cells #[] 42)).drew from Below.drew (Kpt.refl _))
      have ob : Hid (OwnsN 10 42 ((w1.alloc (.cells #[] 42)).alloc (.cells #[.int .i64 p0, .int .i64 p1, .int .i64 p2, .int .i64 p3, .int .i64 p4, .int .i64 p5, .int .i64 p6, .int .i64 p7, .int .i64 p8, .int .i64 p9] 42)).drew w1.heap.size (.slice (some ⟨w1.heap.size, 0, none⟩) 0 0) []) := OwnsN.kpt (OwnsN.empty 10 42 w1 w1.heap.size (Nat.le_refl _)) (show Kpt _ ((w1.alloc (.cells #[] 42)).alloc (.cells #[.int .i64 p0, .int .i64 p1, .int .i64 p2, .int .i64 p3, .int .i64 p4, .int .i64 p5, .int .i64 p6, .int .i64 p7, .int .i64 p8, .int .i64 p9] 42)).drew from Below.drew ((Kpt.refl _).alloc _))
      have oc : Hid (OwnsN 10 42 (w1.alloc (.cells #[] 42)).drew w1.heap.size (.slice (some ⟨w1.heap.size, 0, none⟩) 0 0) []) := OwnsN.kpt (OwnsN.empty 10 42 w1 w1.heap.size (Nat.le_refl _)) (show Kpt _ (w1.alloc (.cells #[] 42)).drew from Below.drew (Kpt.refl _))
      have ka : Hid (Kpt w1 ((w1.alloc (.cells #[.int .i64 p0, .int .i64 p1, .int .i64 p2, .int .i64 p3, .int .i64 p4, .int .i64 p5, .int .i64 p6, .int .i64 p7, .int .i64 p8, .int .i64 p9] 42)).alloc (.cells #[] 42)).drew) := Below.drew (((Kpt.refl w1).alloc _).alloc _)
      have kb : Hid (Kpt w1 ((w1.alloc (.cells #[] 42)).alloc (.cells #[.int .i64 p0, .int .i64 p1, .int .i64 p2, .int .i64 p3, .int .i64 p4, .int .i64 p5, .int .i64 p6, .int .i64 p7, .int .i64 p8, .int .i64 p9] 42)).drew) := Below.drew (((Kpt.refl w1).alloc _).alloc _)
      have kc : Hid (Kpt w1 (w1.alloc (.cells #[] 42)).drew) := Below.drew ((Kpt.refl w1).alloc _)
      have ba : Hid (Blk ((w1.alloc (.cells #[.int .i64 p0, .int .i64 p1, .int .i64 p2, .int .i64 p3, .int .i64 p4, .int .i64 p5, .int .i64 p6, .int .i64 p7, .int .i64 p8, .int .i64 p9] 42)).alloc (.cells #[] 42)).drew w1.heap.size #[.int .i64 p0, .int .i64 p1, .int .i64 p2, .int .i64 p3, .int .i64 p4, .int .i64 p5, .int .i64 p6, .int .i64 p7, .int .i64 p8, .int .i64 p9] 42) := ((Blk.made w1 #[.int .i64 p0, .int .i64 p1, .int .i64 p2, .int .i64 p3, .int .i64 p4, .int .i64 p5, .int .i64 p6, .int .i64 p7, .int .i64 p8, .int .i64 p9] 42).alloc _).drew
      have bb : Hid (Blk ((w1.alloc (.cells #[] 42)).alloc (.cells #[.int .i64 p0, .int .i64 p1, .int .i64 p2, .int .i64 p3, .int .i64 p4, .int .i64 p5, .int .i64 p6, .int .i64 p7, .int .i64 p8, .int .i64 p9] 42)).drew (w1.heap.size + 1) #[.int .i64 p0, .int .i64 p1, .int .i64 p2, .int .i64 p3, .int .i64 p4, .int .i64 p5, .int .i64 p6, .int .i64 p7, .int .i64 p8, .int .i64 p9] 42) := by
        have := Blk.made (w1.alloc (.cells #[] 42)) #[.int .i64 p0, .int .i64 p1, .int .i64 p2, .int .i64 p3, .int .i64 p4, .int .i64 p5, .int .i64 p6, .int .i64 p7, .int .i64 p8, .int .i64 p9] 42
        rw [World.size_alloc] at this
        exact this.drew
      have lenR : ([] : List (List Int)).length + fs.length ≤ 100000 := by have h1 : _ ≤ 60 := HL.out; have h2 : n = fs.length := HN.out; simp; omega
      have lenT : fs.length + [[p0, p1, p2, p3, p4, p5, p6, p7, p8, p9]].length ≤ 100000 := by have h1 : _ ≤ 60 := HL.out; have h2 : n = fs.length := HN.out; simp; omega
      have lenU : Hid (n + 1 = fs.length + [[p0, p1, p2, p3, p4, p5, p6, p7, p8, p9]].length) := Lib.hid <| by have h2 : n = fs.length := HN.out; simp; omega
      go_region_held3 (fun w' => World.cell? w' ⟨w.heap.size, 1, none⟩ = some (.slice a n c) ∧ World.cell? w' ⟨w.heap.size + 1, 0, none⟩ = some (.int .i64 p0) ∧ World.cell? w' ⟨w.heap.size + 1, 1, none⟩ = some (.int .i64 p1) ∧ World.cell? w' ⟨w.heap.size + 1, 2, none⟩ = some (.int .i64 p2) ∧ World.cell? w' ⟨w.heap.size + 1, 3, none⟩ = some (.int .i64 p3) ∧ World.cell? w' ⟨w.heap.size + 1, 4, none⟩ = some (.int .i64 p4) ∧ World.cell? w' ⟨w.heap.size + 1, 5, none⟩ = some (.int .i64 p5) ∧ World.cell? w' ⟨w.heap.size + 1, 6, none⟩ = some (.int .i64 p6) ∧ World.cell? w' ⟨w.heap.size + 1, 7, none⟩ = some (.int .i64 p7) ∧ World.cell? w' ⟨w.heap.size + 1, 8, none⟩ = some (.int .i64 p8) ∧ World.cell? w' ⟨w.heap.size + 1, 9, none⟩ = some (.int .i64 p9))
        (first
          | go_keep
          | (exact SK.out _ KA2.out)
          | (exact SK.out _ KA1.out)
          | (exact SK.out _ ka.out)
          | (exact SK.out _ kb.out)
          | (exact SK.out _ kc.out)
          | fail)
        (first
        | (refine step_appendFs (by rfl) _ _ (by rfl) w1.heap.size (w1.heap.size + 1) 0 0 (.slice a n c) [] fs (by rfl) oa.out (by rfl) (HFw.out _ ka.out) HNil.out lenR (Below.size ka.out) n fs (by simp; exact HN.out) rfl ?_; rintro gg cap wa o1 g1 qe; have O1 := Lib.hid o1; have KA1 := Lib.hid (kp_grown ka.out (by omega) g1); have GE1 : Hid (w1.heap.size ≤ gg) := Lib.hid qe; have XB := Lib.hid (blk_grown2 ba.out (by omega) g1); clear o1 g1 qe)
        | (refine step_appendFs (by rfl) _ _ (by rfl) w1.heap.size w1.heap.size 0 0 (.slice a n c) [] fs (by rfl) ob.out (by rfl) (HFw.out _ kb.out) HNil.out lenR (Below.size kb.out) n fs (by simp; exact HN.out) rfl ?_; rintro gg cap wa o1 g1 qe; have O1 := Lib.hid o1; have KA1 := Lib.hid (kp_grown kb.out (by omega) g1); have GE1 : Hid (w1.heap.size ≤ gg) := Lib.hid qe; have XB := Lib.hid (blk_grown2 bb.out (by omega) g1); clear o1 g1 qe)
        | (refine step_appendFs (by rfl) _ _ (by rfl) w1.heap.size w1.heap.size 0 0 (.slice a n c) [] fs (by rfl) oc.out (by rfl) (HFw.out _ kc.out) HNil.out lenR (Below.size kc.out) n fs (by simp; exact HN.out) rfl ?_; rintro gg cap wa o1 g1 qe; have O1 := Lib.hid o1; have KA1 := Lib.hid (kp_grown kc.out (by omega) g1); have GE1 : Hid (w1.heap.size ≤ gg) := Lib.hid qe; have XC1 := Lib.hid (Blk.made wa #[.int .i64 p0, .int .i64 p1, .int .i64 p2, .int .i64 p3, .int .i64 p4, .int .i64 p5, .int .i64 p6, .int .i64 p7, .int .i64 p8, .int .i64 p9] 42); clear o1 g1 qe)
        | (refine step_appendFs (by rfl) _ _ (by rfl) 0 gg n cap _ fs [[p0, p1, p2, p3, p4, p5, p6, p7, p8, p9]] (by rfl) (Joins.ownsRow_le O1.out (Nat.zero_le _)) (by rfl) (rf_one1 XB.out rfl FP.out) rn_some lenT (Nat.zero_le _) (n + 1) (fs ++ [[p0, p1, p2, p3, p4, p5, p6, p7, p8, p9]]) lenU.out rfl ?_; rintro gg2 cap2 wz o2 g2 -; have O2 := Lib.hid o2; have KA2 := Lib.hid (kp_grown KA1.out GE1.out g2); clear o2 g2)
        | (refine step_appendFs (by rfl) _ _ (by rfl) 0 gg n cap _ fs [[p0, p1, p2, p3, p4, p5, p6, p7, p8, p9]] (by rfl) (Joins.ownsRow_le (OwnsN.kpt O1.out ((Kpt.refl _).alloc _)) (Nat.zero_le _)) (by rfl) (rf_one1 XC1.out rfl FP.out) rn_some lenT (Nat.zero_le _) (n + 1) (fs ++ [[p0, p1, p2, p3, p4, p5, p6, p7, p8, p9]]) lenU.out rfl ?_; rintro gg2 cap2 wz o2 g2 -; have O2 := Lib.hid o2; have KA2 := Lib.hid (kp_grown (KA1.out.alloc _) GE1.out g2); clear o2 g2)
        | fail)
      all_goals go_wp2
      all_goals go_meet
      all_goals (case rel => exact ⟨_, _, rfl, O2.out, KA2.out⟩)
    case rest =>
    obtain ⟨gz, cz, rfl, oz, kz⟩ := hcut
    have K7 : Hid (Kpt w wc) := ktr K1.out kz.out
    have KW7 : Hid (Kpt (((w.alloc (.cells #[.int .i64 T, .slice a n c, .slice ab b.length cb] 31)).alloc (.cells #[.int .i64 p0, .int .i64 p1, .int .i64 p2, .int .i64 p3, .int .i64 p4, .int .i64 p5, .int .i64 p6, .int .i64 p7, .int .i64 p8, .int .i64 p9] 42)).alloc (.cells #[.int .i64 0, .slice none 0 0, .slice none 0 0] 31)) wc) := ktr KW1.out kz.out
    have RZ : Hid (ReadsF wc (.slice (some ⟨gz, 0, none⟩) (n + 1) cz) (fs ++ [[p0, p1, p2, p3, p4, p5, p6, p7, p8, p9]])) := OwnsN.readsF oz.out FB.out
    have CK := Lib.hid (rfcs_run _ _ wc RZ.out)
    clear FP HNil
    clear h9
    generalize checksE (fs ++ [[p0, p1, p2, p3, p4, p5, p6, p7, p8, p9]]) = E at CK z0 FIN
    go_wp2_with (first
      | (go_at_call 58; (with_reducible refine CK.out.mono ?_); rintro z w8 ⟨rfl, kk⟩; have K8 : Hid (Kpt w w8) := ktr K7.out kk; have Z8 := Lib.hid (B4.out.kpt (ktr KW7.out kk)); clear kk CK)
      | (refine wp_storeW rfl (.tmp 4) (.tmp 46) rfl (w.heap.size + 2) _ _ rfl rfl Z8.out rfl rfl (by simp [Value.oneCell']) ?_; intro w9 r9 k9 o9; have R9 := Lib.hid r9; have K9 : Hid (Kpt w w9) := k9 _ _ K8.out (by omega); have O9 := Lib.hid o9; clear r9 k9 o9)
      | fail)
    exact bodyPost_ret (v := .tuple #[.agg #[.int .i64 0, .slice none 0 0, .slice none 0 0], .int .i64 E]) (results_W2 Tryz.results24 _ _ _ _ _ rfl rfl R9.out rfl) rfl (FIN.out _ K9.out)
end Go.Proofs.YthaahebggboliaaGreat
namespace Go.Proofs.YthaahebggboliaaGreat
open Go.RowKit Go.Sort Go.Lib
set_option linter.unusedVariables false
theorem rdvRes_E {w w' : World} {T iD m E : Int} {fs : List (List Int)} {b : List (Int × Int × Int)} (h : dvE T iD m fs b = E) (h0 : E ≠ 0) (k : Kpt w w') : RwRes w (dvE T iD m fs b) (dvT T iD m fs b) (dvF T iD m fs b) (dvB T iD m fs b) (.returned (.tuple #[.agg #[.int .i64 0, .slice none 0 0, .slice none 0 0], .int .i64 E])) w' := by
  subst h
  unfold dvT dvF dvB
  rw [if_neg h0, if_neg h0, if_neg h0]
  exact rwRes_0 k
theorem wp_storeFk {ops : Array Oper} {rest : List Oper} {o : Oper} {a : Act} {w : World} {Q : Exit → Act → World → Prop} (hgd : o.guard = none) (x y : Operand) (ho : o.op = .store 42 x y)
    (g k n cp base : Nat) (cs : Array Value) (fs : List (List Int)) (l : List Int) (hx : a.eval x = .pointer (some ⟨g, k * 10, none⟩)) (hy : a.eval y = .agg cs) (hcs : cs.toList = rowN 10 l)
    (own : OwnsN 10 42 w base (.slice (some ⟨g, 0, none⟩) n cp) fs) (hk : k < fs.length)
    (h : ∀ w', OwnsN 10 42 w' base (.slice (some ⟨g, 0, none⟩) n cp) (fs.set k l) → (∀ B w0, Below B w0 w → B ≤ g → Below B w0 w') → wpList Tryz.prog ops Q rest (a.put o.dst undef) w') : wpList Tryz.prog ops Q (o :: rest) a w := by
  have hsz : cs.size = 10 := by rw [← Array.length_toList, hcs, rowN_len]
  obtain ⟨cur, hb⟩ := row_blk own (k := g) (by simp [Value.ownBlock])
  have ht : w.there g (k * 10) cs.size := by
    intro j hj
    rw [hsz] at hj
    obtain ⟨a', cap', e, -, hc⟩ := OwnsN.cells own
    injection e with e1 e2 e3
    obtain ⟨g', e', h'⟩ := hc k hk
    have e4 := Option.some.inj (e1.trans e')
    injection e4 with e4 _ _
    subst e4
    exact ⟨by rw [h' j hj]; rfl, hb.frozen _⟩
  refine wpList_store_mid hgd _ x y ho g (k * 10) cs hx hy ht (by rw [hsz]; exact Tryz.sizeFail) (Array.all_eq_true_iff_forall_mem.2 fun v hv => ?_) ?_
  · have hv2 : v ∈ cs.toList := by simpa using hv
    rw [hcs] at hv2
    obtain ⟨j, _, rfl⟩ := List.mem_map.1 hv2
    rfl
  · rw [hcs]
    exact h _ (own_put own hk) (fun B w0 h1 h2 => below_sc h2 _ _ _ h1)
theorem del_ok2 {l : List Int} {n : Int} (h : tkL l n = 0) : failEL (delF l n) = 0 := by
  obtain ⟨h0, h1, h2, h3⟩ := tk_0 h
  have o : opL l = l.getD 6 0 - l.getD 7 0 - l.getD 8 0 - l.getD 9 0 := by
    show openV _ _ _ _ _ _ _ _ _ _ = _
    unfold openV
    rw [if_pos (show failE _ _ _ _ _ _ _ _ _ _ = 0 from h0)]
  obtain ⟨k1, k2, k3, k4⟩ := fail_0 (show failE _ _ _ _ _ _ _ _ _ _ = 0 from h0)
  obtain ⟨a1, a2, a3⟩ := ftk_t k3
  show failE (l.getD 0 0) (l.getD 1 0) (l.getD 2 0) (l.getD 3 0) (l.getD 4 0) (l.getD 5 0) (l.getD 6 0) (l.getD 7 0 + n) (l.getD 8 0) (l.getD 9 0) = 0
  unfold failE
  rw [if_pos k1, if_neg k2, if_pos, if_neg (by omega)]
  simp only [ftk, Bool.and_eq_true]
  exact ⟨decide_eq_true (by omega), decide_eq_true a2, decide_eq_true a3⟩
set_option maxRecDepth 100000 in
set_option maxHeartbeats 4000000 in
theorem rdel_w (T iD m : Int) (a : Option Addr) (c : Nat) (ab : Option Addr) (cb : Nat) (fs : List (List Int)) (b : List (Int × Int × Int)) (w : World) (hF : ReadsF w (.slice a fs.length c) fs) (hn : NilC (.slice a fs.length c)) (hb : ReadsP w (.slice ab b.length cb) b) (E : Int) (hw : wldE T fs b = E) (h0 : E ≠ 0) : Calls Tryz.prog 23 #[.agg #[.int .i64 T, .slice a fs.length c, .slice ab b.length cb], .int .i64 iD, .int .i64 m] w (RwRes w (dvE T iD m fs b) (dvT T iD m fs b) (dvF T iD m fs b) (dvB T iD m fs b)) := by
  have hE : dvE T iD m fs b = E := by unfold dvE orE; rw [if_neg (by rw [hw]; exact h0)]; exact hw
  have z0 : (E != 0) = true := bne_iff_ne.2 h0
  have FIN := Lib.hid (fun w' (k : Kpt w w') => rdvRes_E (T := T) (iD := iD) (m := m) (fs := fs) (b := b) (E := E) hE h0 k)
  clear hE h0
  have WC := Lib.hid (fun w' (k : Kpt w w') => rwc_run T (.slice a fs.length c) (.slice ab b.length cb) fs b w' (hF.kpt k) (hb.kpt k))
  have FF := Lib.hid (fun w' (k : Kpt w w') => rff_run (.slice a fs.length c) fs iD w' (hF.kpt k))
  have HF := Lib.hid hF
  have HNil := Lib.hid hn
  have HB := Lib.hid hb
  rw [hw] at WC
  clear hF hn hb hw
  obtain ⟨n, hn'⟩ : ∃ n, n = fs.length := ⟨_, rfl⟩
  rw [← hn'] at WC FF HF HNil ⊢
  have HN := Lib.hid hn'
  clear hn'
  have K3 : Hid (Kpt w ((w.alloc (.cells #[.int .i64 T, .slice a n c, .slice ab b.length cb] 31)).alloc (.cells #[.int .i64 0, .slice none 0 0, .slice none 0 0] 31))) := ((Kpt.refl w).alloc _).alloc _
  have B2 : Hid (Blk ((w.alloc (.cells #[.int .i64 T, .slice a n c, .slice ab b.length cb] 31)).alloc (.cells #[.int .i64 0, .slice none 0 0, .slice none 0 0] 31)) w.heap.size #[.int .i64 T, .slice a n c, .slice ab b.length cb] 31) := (Blk.made w _ _).alloc _
  have B4 : Hid (Blk ((w.alloc (.cells #[.int .i64 T, .slice a n c, .slice ab b.length cb] 31)).alloc (.cells #[.int .i64 0, .slice none 0 0, .slice none 0 0] 31)) (w.heap.size + 1) #[.int .i64 0, .slice none 0 0, .slice none 0 0] 31) := by
    have := Blk.made (w.alloc (.cells #[.int .i64 T, .slice a n c, .slice ab b.length cb] 31)) #[.int .i64 0, .slice none 0 0, .slice none 0 0] 31
    rw [World.size_alloc] at this
    exact this
  go_enter Tryz.func23, Tryz.ntmps23
  go_wp2_with (first
    | (go_at_call 17; (with_reducible refine (WC.out _ K3.out).mono ?_); rintro z w1 ⟨rfl, kk⟩; have K1 : Hid (Kpt w w1) := ktr K3.out kk; have KW1 : Hid (Kpt ((w.alloc (.cells #[.int .i64 T, .slice a n c, .slice ab b.length cb] 31)).alloc (.cells #[.int .i64 0, .slice none 0 0, .slice none 0 0] 31)) w1) := kk; have Z1 := Lib.hid (B4.out.kpt kk); have t1 : World.cell? w1 ⟨w.heap.size, 1, none⟩ = some (.slice a n c) := (B2.out.kpt kk).cell 1;  clear kk WC)
    | (refine wp_storeW rfl (.tmp 6) (.tmp 17) rfl (w.heap.size + 1) _ _ rfl rfl Z1.out rfl rfl (by simp [Value.oneCell']) ?_; intro w9 r9 k9 o9; have R9 := Lib.hid r9; have K9 : Hid (Kpt w w9) := k9 _ _ K1.out (by omega); clear r9 k9 o9)
    | fail)
  exact bodyPost_ret (v := .tuple #[.agg #[.int .i64 0, .slice none 0 0, .slice none 0 0], .int .i64 E]) (results_W2 Tryz.results23 _ _ _ _ _ rfl rfl R9.out rfl) rfl (FIN.out _ K9.out)
set_option maxRecDepth 100000 in
set_option maxHeartbeats 4000000 in
theorem rdel_n (T iD m : Int) (a : Option Addr) (c : Nat) (ab : Option Addr) (cb : Nat) (fs : List (List Int)) (b : List (Int × Int × Int)) (w : World) (hF : ReadsF w (.slice a fs.length c) fs) (hn : NilC (.slice a fs.length c)) (hb : ReadsP w (.slice ab b.length cb) b) (hw : wldE T fs b = 0) (hi : idxF iD fs 0 < 0) : Calls Tryz.prog 23 #[.agg #[.int .i64 T, .slice a fs.length c, .slice ab b.length cb], .int .i64 iD, .int .i64 m] w (RwRes w (dvE T iD m fs b) (dvT T iD m fs b) (dvF T iD m fs b) (dvB T iD m fs b)) := by
  have hE : dvE T iD m fs b = 5 := by unfold dvE orE dlE; rw [if_pos hw, if_pos hi]
  have h0 : (5 : Int) ≠ 0 := by decide
  have qi : decide (idxF iD fs 0 < 0) = true := decide_eq_true hi
  have FIN := Lib.hid (fun w' (k : Kpt w w') => rdvRes_E (T := T) (iD := iD) (m := m) (fs := fs) (b := b) (E := 5) hE h0 k)
  clear hE h0
  have WC := Lib.hid (fun w' (k : Kpt w w') => rwc_run T (.slice a fs.length c) (.slice ab b.length cb) fs b w' (hF.kpt k) (hb.kpt k))
  have FF := Lib.hid (fun w' (k : Kpt w w') => rff_run (.slice a fs.length c) fs iD w' (hF.kpt k))
  have HF := Lib.hid hF
  have HNil := Lib.hid hn
  have HB := Lib.hid hb
  rw [hw] at WC
  clear hF hn hb hw
  obtain ⟨n, hn'⟩ : ∃ n, n = fs.length := ⟨_, rfl⟩
  rw [← hn'] at WC FF HF HNil ⊢
  have HN := Lib.hid hn'
  clear hn'
  have K3 : Hid (Kpt w ((w.alloc (.cells #[.int .i64 T, .slice a n c, .slice ab b.length cb] 31)).alloc (.cells #[.int .i64 0, .slice none 0 0, .slice none 0 0] 31))) := ((Kpt.refl w).alloc _).alloc _
  have B2 : Hid (Blk ((w.alloc (.cells #[.int .i64 T, .slice a n c, .slice ab b.length cb] 31)).alloc (.cells #[.int .i64 0, .slice none 0 0, .slice none 0 0] 31)) w.heap.size #[.int .i64 T, .slice a n c, .slice ab b.length cb] 31) := (Blk.made w _ _).alloc _
  have B4 : Hid (Blk ((w.alloc (.cells #[.int .i64 T, .slice a n c, .slice ab b.length cb] 31)).alloc (.cells #[.int .i64 0, .slice none 0 0, .slice none 0 0] 31)) (w.heap.size + 1) #[.int .i64 0, .slice none 0 0, .slice none 0 0] 31) := by
    have := Blk.made (w.alloc (.cells #[.int .i64 T, .slice a n c, .slice ab b.length cb] 31)) #[.int .i64 0, .slice none 0 0, .slice none 0 0] 31
    rw [World.size_alloc] at this
    exact this
  clear hi
  generalize idxF iD fs 0 = ii at *
  go_enter Tryz.func23, Tryz.ntmps23
  go_wp2_with (first
    | (go_at_call 17; (with_reducible refine (WC.out _ K3.out).mono ?_); rintro z w1 ⟨rfl, kk⟩; have K1 : Hid (Kpt w w1) := ktr K3.out kk; have KW1 : Hid (Kpt ((w.alloc (.cells #[.int .i64 T, .slice a n c, .slice ab b.length cb] 31)).alloc (.cells #[.int .i64 0, .slice none 0 0, .slice none 0 0] 31)) w1) := kk; have Z1 := Lib.hid (B4.out.kpt kk); have t1 : World.cell? w1 ⟨w.heap.size, 1, none⟩ = some (.slice a n c) := (B2.out.kpt kk).cell 1;  clear kk WC)
    | (go_at_call 63; (with_reducible refine (FF.out _ K1.out).mono ?_); rintro z w2 ⟨rfl, kk⟩; have K2 : Hid (Kpt w w2) := ktr K1.out kk; have KW2 : Hid (Kpt ((w.alloc (.cells #[.int .i64 T, .slice a n c, .slice ab b.length cb] 31)).alloc (.cells #[.int .i64 0, .slice none 0 0, .slice none 0 0] 31)) w2) := ktr KW1.out kk; have Z2 := Lib.hid (B4.out.kpt KW2.out);  clear kk FF)
    | (refine wp_storeW rfl (.tmp 6) (.tmp 25) rfl (w.heap.size + 1) _ _ rfl rfl Z2.out rfl rfl (by simp [Value.oneCell']) ?_; intro w9 r9 k9 o9; have R9 := Lib.hid r9; have K9 : Hid (Kpt w w9) := k9 _ _ K2.out (by omega); clear r9 k9 o9)
    | fail)
  exact bodyPost_ret (v := .tuple #[.agg #[.int .i64 0, .slice none 0 0, .slice none 0 0], .int .i64 5]) (results_W2 Tryz.results23 _ _ _ _ _ rfl rfl R9.out rfl) rfl (FIN.out _ K9.out)
set_option maxRecDepth 100000 in
set_option maxHeartbeats 4000000 in
theorem rdel_t (T iD m : Int) (a : Option Addr) (c : Nat) (ab : Option Addr) (cb : Nat) (fs : List (List Int)) (b : List (Int × Int × Int)) (w : World) (hF : ReadsF w (.slice a fs.length c) fs) (hn : NilC (.slice a fs.length c)) (hb : ReadsP w (.slice ab b.length cb) b) (hw : wldE T fs b = 0) (hi : ¬ idxF iD fs 0 < 0) (E : Int) (ht : tkL (atF iD fs) m = E) (h0 : E ≠ 0) : Calls Tryz.prog 23 #[.agg #[.int .i64 T, .slice a fs.length c, .slice ab b.length cb], .int .i64 iD, .int .i64 m] w (RwRes w (dvE T iD m fs b) (dvT T iD m fs b) (dvF T iD m fs b) (dvB T iD m fs b)) := by
  have hE : dvE T iD m fs b = E := by unfold dvE orE dlE; rw [if_pos hw, if_neg hi, if_neg (by rw [ht]; exact h0)]; exact ht
  have z0 : (E != 0) = true := bne_iff_ne.2 h0
  have hlt : ixF iD fs < fs.length := by
    rcases idx_bd iD fs 0 with e | e
    · exact absurd e hi
    · unfold ixF; omega
  have hie : idxF iD fs 0 = (ixF iD fs : Int) := by unfold ixF; omega
  have hce : ∃ g off, a = some ⟨g, off, none⟩ ∧ FlAt w g (off + ixF iD fs * 10) (atF iD fs) := by
    obtain ⟨x, cap, e, -, -, hc⟩ := hF
    injection e with e1 e2 e3
    subst e1
    exact hc _ hlt
  have hlen := ck60 (wld_0 hw).2.1
  have FL : Hid (∀ w', Calls Tryz.prog 64 #[.agg #[.int .i64 ((atF iD fs).getD 0 0), .int .i64 ((atF iD fs).getD 1 0), .int .i64 ((atF iD fs).getD 2 0), .int .i64 ((atF iD fs).getD 3 0), .int .i64 ((atF iD fs).getD 4 0), .int .i64 ((atF iD fs).getD 5 0), .int .i64 ((atF iD fs).getD 6 0), .int .i64 ((atF iD fs).getD 7 0), .int .i64 ((atF iD fs).getD 8 0), .int .i64 ((atF iD fs).getD 9 0)], .int .i64 m, .int .i64 1] w' fun e w'' => e = .returned (.tuple #[.agg #[.int .i64 0, .int .i64 0, .int .i64 0, .int .i64 0, .int .i64 0, .int .i64 0, .int .i64 0, .int .i64 0, .int .i64 0, .int .i64 0], .int .i64 E]) ∧ Kpt w' w'') := fun w' => by
    refine (rless_run (atF iD fs) m w').mono ?_
    rintro e w'' ⟨h1, h2, k⟩
    exact ⟨by rw [h1 (by rw [ht]; exact h0), ht], k⟩
  have FIN := Lib.hid (fun w' (k : Kpt w w') => rdvRes_E (T := T) (iD := iD) (m := m) (fs := fs) (b := b) (E := E) hE h0 k)
  clear hE h0
  have WC := Lib.hid (fun w' (k : Kpt w w') => rwc_run T (.slice a fs.length c) (.slice ab b.length cb) fs b w' (hF.kpt k) (hb.kpt k))
  have FF := Lib.hid (fun w' (k : Kpt w w') => rff_run (.slice a fs.length c) fs iD w' (hF.kpt k))
  have HF := Lib.hid hF
  have HNil := Lib.hid hn
  have HB := Lib.hid hb
  rw [hw] at WC
  clear hF hn hb hw
  obtain ⟨n, hn'⟩ : ∃ n, n = fs.length := ⟨_, rfl⟩
  rw [← hn'] at WC FF HF HNil ⊢
  have HN := Lib.hid hn'
  clear hn'
  have K3 : Hid (Kpt w ((w.alloc (.cells #[.int .i64 T, .slice a n c, .slice ab b.length cb] 31)).alloc (.cells #[.int .i64 0, .slice none 0 0, .slice none 0 0] 31))) := ((Kpt.refl w).alloc _).alloc _
  have B2 : Hid (Blk ((w.alloc (.cells #[.int .i64 T, .slice a n c, .slice ab b.length cb] 31)).alloc (.cells #[.int .i64 0, .slice none 0 0, .slice none 0 0] 31)) w.heap.size #[.int .i64 T, .slice a n c, .slice ab b.length cb] 31) := (Blk.made w _ _).alloc _
  have B4 : Hid (Blk ((w.alloc (.cells #[.int .i64 T, .slice a n c, .slice ab b.length cb] 31)).alloc (.cells #[.int .i64 0, .slice none 0 0, .slice none 0 0] 31)) (w.heap.size + 1) #[.int .i64 0, .slice none 0 0, .slice none 0 0] 31) := by
    have := Blk.made (w.alloc (.cells #[.int .i64 T, .slice a n c, .slice ab b.length cb] 31)) #[.int .i64 0, .slice none 0 0, .slice none 0 0] 31
    rw [World.size_alloc] at this
    exact this
  clear ht
  rw [hie] at FF
  obtain ⟨g, off, rfl, hfl⟩ := hce
  have hlt' : ixF iD fs < n := by rw [HN.out]; exact hlt
  have HLT := Lib.hid hlt
  have HLEN := Lib.hid hlen
  clear hlt hie hi hlen
  generalize ixF iD fs = ix at *
  generalize atF iD fs = l at *
  have i0 : (0 : Int) ≤ (ix : Int) := by omega
  have i1 : (ix : Int) < (n : Int) := by omega
  have qi : decide ((ix : Int) < 0) = false := decide_eq_false (by omega)
  have c0_ : w.cell? ⟨g, off + ix * 10, none⟩ = some (.int .i64 (l.getD 0 0)) := hfl 0 (by decide)
  have c1_ : w.cell? ⟨g, off + ix * 10 + 1, none⟩ = some (.int .i64 (l.getD 1 0)) := hfl 1 (by decide)
  have c2_ : w.cell? ⟨g, off + ix * 10 + 2, none⟩ = some (.int .i64 (l.getD 2 0)) := hfl 2 (by decide)
  have c3_ : w.cell? ⟨g, off + ix * 10 + 3, none⟩ = some (.int .i64 (l.getD 3 0)) := hfl 3 (by decide)
  have c4_ : w.cell? ⟨g, off + ix * 10 + 4, none⟩ = some (.int .i64 (l.getD 4 0)) := hfl 4 (by decide)
  have c5_ : w.cell? ⟨g, off + ix * 10 + 5, none⟩ = some (.int .i64 (l.getD 5 0)) := hfl 5 (by decide)
  have c6_ : w.cell? ⟨g, off + ix * 10 + 6, none⟩ = some (.int .i64 (l.getD 6 0)) := hfl 6 (by decide)
  have c7_ : w.cell? ⟨g, off + ix * 10 + 7, none⟩ = some (.int .i64 (l.getD 7 0)) := hfl 7 (by decide)
  have c8_ : w.cell? ⟨g, off + ix * 10 + 8, none⟩ = some (.int .i64 (l.getD 8 0)) := hfl 8 (by decide)
  have c9_ : w.cell? ⟨g, off + ix * 10 + 9, none⟩ = some (.int .i64 (l.getD 9 0)) := hfl 9 (by decide)
  clear hfl
  generalize l.getD 0 0 = z0 at *
  generalize l.getD 1 0 = z1 at *
  generalize l.getD 2 0 = z2 at *
  generalize l.getD 3 0 = z3 at *
  generalize l.getD 4 0 = z4 at *
  generalize l.getD 5 0 = z5 at *
  generalize l.getD 6 0 = z6 at *
  generalize l.getD 7 0 = z7 at *
  generalize l.getD 8 0 = z8 at *
  generalize l.getD 9 0 = z9 at *
  go_enter Tryz.func23, Tryz.ntmps23
  go_wp2_with (first
    | (go_at_call 17; (with_reducible refine (WC.out _ K3.out).mono ?_); rintro z w1 ⟨rfl, kk⟩; have K1 : Hid (Kpt w w1) := ktr K3.out kk; have KW1 : Hid (Kpt ((w.alloc (.cells #[.int .i64 T, .slice (some ⟨g, off, none⟩) n c, .slice ab b.length cb] 31)).alloc (.cells #[.int .i64 0, .slice none 0 0, .slice none 0 0] 31)) w1) := kk; have Z1 := Lib.hid (B4.out.kpt kk); have t1 : World.cell? w1 ⟨w.heap.size, 1, none⟩ = some (.slice (some ⟨g, off, none⟩) n c) := (B2.out.kpt kk).cell 1;  clear kk WC)
    | (go_at_call 63; (with_reducible refine (FF.out _ K1.out).mono ?_); rintro z w2 ⟨rfl, kk⟩; have K2 : Hid (Kpt w w2) := ktr K1.out kk; have KW2 : Hid (Kpt ((w.alloc (.cells #[.int .i64 T, .slice (some ⟨g, off, none⟩) n c, .slice ab b.length cb] 31)).alloc (.cells #[.int .i64 0, .slice none 0 0, .slice none 0 0] 31)) w2) := ktr KW1.out kk; have Z2 := Lib.hid (B4.out.kpt KW2.out); have d0 := K2.out.cell c0_; have d1 := K2.out.cell c1_; have d2 := K2.out.cell c2_; have d3 := K2.out.cell c3_; have d4 := K2.out.cell c4_; have d5 := K2.out.cell c5_; have d6 := K2.out.cell c6_; have d7 := K2.out.cell c7_; have d8 := K2.out.cell c8_; have d9 := K2.out.cell c9_; have t2 : World.cell? w2 ⟨w.heap.size, 1, none⟩ = some (.slice (some ⟨g, off, none⟩) n c) := (B2.out.kpt KW2.out).cell 1; clear kk FF)
    | (go_at_call 64; (with_reducible refine (FL.out _).mono ?_); rintro z w3 ⟨rfl, kk⟩; have K3b : Hid (Kpt w w3) := ktr K2.out kk; have KW3 : Hid (Kpt ((w.alloc (.cells #[.int .i64 T, .slice (some ⟨g, off, none⟩) n c, .slice ab b.length cb] 31)).alloc (.cells #[.int .i64 0, .slice none 0 0, .slice none 0 0] 31)) w3) := ktr KW2.out kk; have Z3 : Hid (Blk (w3.alloc (.cells #[.int .i64 0, .int .i64 0, .int .i64 0, .int .i64 0, .int .i64 0, .int .i64 0, .int .i64 0, .int .i64 0, .int .i64 0, .int .i64 0] 42)) (w.heap.size + 1) #[.int .i64 0, .slice none 0 0, .slice none 0 0] 31) := (B4.out.kpt KW3.out).alloc _; have K3c : Hid (Kpt w (w3.alloc (.cells #[.int .i64 0, .int .i64 0, .int .i64 0, .int .i64 0, .int .i64 0, .int .i64 0, .int .i64 0, .int .i64 0, .int .i64 0, .int .i64 0] 42))) := K3b.out.alloc _; clear kk FL d0 d1 d2 d3 d4 d5 d6 d7 d8 d9 t2)
    | (refine wp_storeW rfl (.tmp 6) (.tmp 38) rfl (w.heap.size + 1) _ _ rfl rfl Z3.out rfl rfl (by simp [Value.oneCell']) ?_; intro w9 r9 k9 o9; have R9 := Lib.hid r9; have K9 : Hid (Kpt w w9) := k9 _ _ K3c.out (by omega); clear r9 k9 o9)
    | fail)
  exact bodyPost_ret (v := .tuple #[.agg #[.int .i64 0, .slice none 0 0, .slice none 0 0], .int .i64 E]) (results_W2 Tryz.results23 _ _ _ _ _ rfl rfl R9.out rfl) rfl (FIN.out _ K9.out)
set_option maxRecDepth 100000 in
set_option maxHeartbeats 4000000 in
theorem rdel_b (T iD m : Int) (a : Option Addr) (c : Nat) (ab : Option Addr) (cb : Nat) (fs : List (List Int)) (b : List (Int × Int × Int)) (w : World) (hF : ReadsF w (.slice a fs.length c) fs) (hn : NilC (.slice a fs.length c)) (hb : ReadsP w (.slice ab b.length cb) b) (hw : wldE T fs b = 0) (hi : ¬ idxF iD fs 0 < 0) (ht : tkL (atF iD fs) m = 0) (E : Int) (hp : pstE b (delL (atF iD fs) m) = E) (h0 : E ≠ 0) : Calls Tryz.prog 23 #[.agg #[.int .i64 T, .slice a fs.length c, .slice ab b.length cb], .int .i64 iD, .int .i64 m] w (RwRes w (dvE T iD m fs b) (dvT T iD m fs b) (dvF T iD m fs b) (dvB T iD m fs b)) := by
  have hE : dvE T iD m fs b = E := by unfold dvE orE dlE; rw [if_pos hw, if_neg hi, if_pos ht]; unfold cpoE; rw [if_neg (by simp [delL])]; exact hp
  have z0 : (E != 0) = true := bne_iff_ne.2 h0
  have hlt : ixF iD fs < fs.length := by
    rcases idx_bd iD fs 0 with e | e
    · exact absurd e hi
    · unfold ixF; omega
  have hie : idxF iD fs 0 = (ixF iD fs : Int) := by unfold ixF; omega
  have hce : ∃ g off, a = some ⟨g, off, none⟩ ∧ FlAt w g (off + ixF iD fs * 10) (atF iD fs) := by
    obtain ⟨x, cap, e, -, -, hc⟩ := hF
    injection e with e1 e2 e3
    subst e1
    exact hc _ hlt
  have hlen := ck60 (wld_0 hw).2.1
  have PS : Hid (∀ w' u, Kpt w w' → ReadsP w' u (delL (atF iD fs) m) → Calls Tryz.prog 43 #[.slice ab b.length cb, u] w' fun e w'' => ∃ R v, e = .returned (.tuple #[v, .int .i64 (pstE b (delL (atF iD fs) m))]) ∧ R = pstR b (delL (atF iD fs) m) ∧ OwnsP w'' w'.heap.size v R ∧ Kpt w' w'') := fun w' u k r => by
    refine (rpost_any _ u b _ w' (hb.kpt k) r).mono ?_
    rintro e w'' ⟨k2, R, E, v, h1, h2, rfl⟩
    obtain ⟨rfl, e2⟩ := pst_is h1
    exact ⟨R, v, rfl, e2, h2, k2⟩
  have FL : Hid (∀ w', Calls Tryz.prog 64 #[.agg #[.int .i64 ((atF iD fs).getD 0 0), .int .i64 ((atF iD fs).getD 1 0), .int .i64 ((atF iD fs).getD 2 0), .int .i64 ((atF iD fs).getD 3 0), .int .i64 ((atF iD fs).getD 4 0), .int .i64 ((atF iD fs).getD 5 0), .int .i64 ((atF iD fs).getD 6 0), .int .i64 ((atF iD fs).getD 7 0), .int .i64 ((atF iD fs).getD 8 0), .int .i64 ((atF iD fs).getD 9 0)], .int .i64 m, .int .i64 1] w' fun e w'' => e = .returned (.tuple #[.agg #[.int .i64 ((atF iD fs).getD 0 0), .int .i64 ((atF iD fs).getD 1 0), .int .i64 ((atF iD fs).getD 2 0), .int .i64 ((atF iD fs).getD 3 0), .int .i64 ((atF iD fs).getD 4 0), .int .i64 ((atF iD fs).getD 5 0), .int .i64 ((atF iD fs).getD 6 0), .int .i64 ((atF iD fs).getD 7 0 + m), .int .i64 ((atF iD fs).getD 8 0), .int .i64 ((atF iD fs).getD 9 0)], .int .i64 0]) ∧ Kpt w' w'') := fun w' => by
    refine (rless_run (atF iD fs) m w').mono ?_
    rintro e w'' ⟨h1, h2, k⟩
    exact ⟨h2 ht, k⟩
  have DI : Hid (InP (delL (atF iD fs) m)) := inP_of (delL_pt ht)
  have wn : IntKind.i64.wrap (-m) = -m := IntWalk.i64_in _ (by have := tk_0 ht; omega)
  have FIN := Lib.hid (fun w' (k : Kpt w w') => rdvRes_E (T := T) (iD := iD) (m := m) (fs := fs) (b := b) (E := E) hE h0 k)
  clear hE h0
  have WC := Lib.hid (fun w' (k : Kpt w w') => rwc_run T (.slice a fs.length c) (.slice ab b.length cb) fs b w' (hF.kpt k) (hb.kpt k))
  have FF := Lib.hid (fun w' (k : Kpt w w') => rff_run (.slice a fs.length c) fs iD w' (hF.kpt k))
  have HF := Lib.hid hF
  have HNil := Lib.hid hn
  have HB := Lib.hid hb
  rw [hw] at WC
  clear hF hn hb hw
  obtain ⟨n, hn'⟩ : ∃ n, n = fs.length := ⟨_, rfl⟩
  rw [← hn'] at WC FF HF HNil ⊢
  have HN := Lib.hid hn'
  clear hn'
  have K3 : Hid (Kpt w ((w.alloc (.cells #[.int .i64 T, .slice a n c, .slice ab b.length cb] 31)).alloc (.cells #[.int .i64 0, .slice none 0 0, .slice none 0 0] 31))) := ((Kpt.refl w).alloc _).alloc _
  have B2 : Hid (Blk ((w.alloc (.cells #[.int .i64 T, .slice a n c, .slice ab b.length cb] 31)).alloc (.cells #[.int .i64 0, .slice none 0 0, .slice none 0 0] 31)) w.heap.size #[.int .i64 T, .slice a n c, .slice ab b.length cb] 31) := (Blk.made w _ _).alloc _
  have B4 : Hid (Blk ((w.alloc (.cells #[.int .i64 T, .slice a n c, .slice ab b.length cb] 31)).alloc (.cells #[.int .i64 0, .slice none 0 0, .slice none 0 0] 31)) (w.heap.size + 1) #[.int .i64 0, .slice none 0 0, .slice none 0 0] 31) := by
    have := Blk.made (w.alloc (.cells #[.int .i64 T, .slice a n c, .slice ab b.length cb] 31)) #[.int .i64 0, .slice none 0 0, .slice none 0 0] 31
    rw [World.size_alloc] at this
    exact this
  rw [hp] at PS
  clear ht hp
  rw [hie] at FF
  obtain ⟨g, off, rfl, hfl⟩ := hce
  have hlt' : ixF iD fs < n := by rw [HN.out]; exact hlt
  have HLT := Lib.hid hlt
  have HLEN := Lib.hid hlen
  clear hlt hie hi hlen
  generalize ixF iD fs = ix at *
  generalize atF iD fs = l at *
  have i0 : (0 : Int) ≤ (ix : Int) := by omega
  have i1 : (ix : Int) < (n : Int) := by omega
  have qi : decide ((ix : Int) < 0) = false := decide_eq_false (by omega)
  have c0_ : w.cell? ⟨g, off + ix * 10, none⟩ = some (.int .i64 (l.getD 0 0)) := hfl 0 (by decide)
  have c1_ : w.cell? ⟨g, off + ix * 10 + 1, none⟩ = some (.int .i64 (l.getD 1 0)) := hfl 1 (by decide)
  have c2_ : w.cell? ⟨g, off + ix * 10 + 2, none⟩ = some (.int .i64 (l.getD 2 0)) := hfl 2 (by decide)
  have c3_ : w.cell? ⟨g, off + ix * 10 + 3, none⟩ = some (.int .i64 (l.getD 3 0)) := hfl 3 (by decide)
  have c4_ : w.cell? ⟨g, off + ix * 10 + 4, none⟩ = some (.int .i64 (l.getD 4 0)) := hfl 4 (by decide)
  have c5_ : w.cell? ⟨g, off + ix * 10 + 5, none⟩ = some (.int .i64 (l.getD 5 0)) := hfl 5 (by decide)
  have c6_ : w.cell? ⟨g, off + ix * 10 + 6, none⟩ = some (.int .i64 (l.getD 6 0)) := hfl 6 (by decide)
  have c7_ : w.cell? ⟨g, off + ix * 10 + 7, none⟩ = some (.int .i64 (l.getD 7 0)) := hfl 7 (by decide)
  have c8_ : w.cell? ⟨g, off + ix * 10 + 8, none⟩ = some (.int .i64 (l.getD 8 0)) := hfl 8 (by decide)
  have c9_ : w.cell? ⟨g, off + ix * 10 + 9, none⟩ = some (.int .i64 (l.getD 9 0)) := hfl 9 (by decide)
  clear hfl
  change Hid (InP [(l.getD 1 0, l.getD 4 0, -m), (l.getD 2 0, l.getD 4 0, m)]) at DI
  change Hid (∀ w' u, Kpt w w' → ReadsP w' u [(l.getD 1 0, l.getD 4 0, -m), (l.getD 2 0, l.getD 4 0, m)] → _) at PS
  generalize pstR b (delL l m) = RR at *
  generalize l.getD 0 0 = z0 at *
  generalize l.getD 1 0 = z1 at *
  generalize l.getD 2 0 = z2 at *
  generalize l.getD 3 0 = z3 at *
  generalize l.getD 4 0 = z4 at *
  generalize l.getD 5 0 = z5 at *
  generalize l.getD 6 0 = z6 at *
  generalize l.getD 7 0 = z7 at *
  generalize l.getD 8 0 = z8 at *
  generalize l.getD 9 0 = z9 at *
  go_enter Tryz.func23, Tryz.ntmps23
  go_wp2_with (first
    | (go_at_call 17; (with_reducible refine (WC.out _ K3.out).mono ?_); rintro z w1 ⟨rfl, kk⟩; have K1 : Hid (Kpt w w1) := ktr K3.out kk; have KW1 : Hid (Kpt ((w.alloc (.cells #[.int .i64 T, .slice (some ⟨g, off, none⟩) n c, .slice ab b.length cb] 31)).alloc (.cells #[.int .i64 0, .slice none 0 0, .slice none 0 0] 31)) w1) := kk; have Z1 := Lib.hid (B4.out.kpt kk); have t1 : World.cell? w1 ⟨w.heap.size, 1, none⟩ = some (.slice (some ⟨g, off, none⟩) n c) := (B2.out.kpt kk).cell 1;  clear kk WC)
    | (go_at_call 63; (with_reducible refine (FF.out _ K1.out).mono ?_); rintro z w2 ⟨rfl, kk⟩; have K2 : Hid (Kpt w w2) := ktr K1.out kk; have KW2 : Hid (Kpt ((w.alloc (.cells #[.int .i64 T, .slice (some ⟨g, off, none⟩) n c, .slice ab b.length cb] 31)).alloc (.cells #[.int .i64 0, .slice none 0 0, .slice none 0 0] 31)) w2) := ktr KW1.out kk; have Z2 := Lib.hid (B4.out.kpt KW2.out); have d0 := K2.out.cell c0_; have d1 := K2.out.cell c1_; have d2 := K2.out.cell c2_; have d3 := K2.out.cell c3_; have d4 := K2.out.cell c4_; have d5 := K2.out.cell c5_; have d6 := K2.out.cell c6_; have d7 := K2.out.cell c7_; have d8 := K2.out.cell c8_; have d9 := K2.out.cell c9_; have t2 : World.cell? w2 ⟨w.heap.size, 1, none⟩ = some (.slice (some ⟨g, off, none⟩) n c) := (B2.out.kpt KW2.out).cell 1; clear kk FF)
    | (go_at_call 64; (with_reducible refine (FL.out _).mono ?_); rintro z w3 ⟨rfl, kk⟩; have K3b : Hid (Kpt w w3) := ktr K2.out kk; have KW3 : Hid (Kpt ((w.alloc (.cells #[.int .i64 T, .slice (some ⟨g, off, none⟩) n c, .slice ab b.length cb] 31)).alloc (.cells #[.int .i64 0, .slice none 0 0, .slice none 0 0] 31)) w3) := ktr KW2.out kk; have K3c : Hid (Kpt w (w3.alloc (.cells #[.int .i64 z0, .int .i64 z1, .int .i64 z2, .int .i64 z3, .int .i64 z4, .int .i64 z5, .int .i64 z6, .int .i64 (z7 + m), .int .i64 z8, .int .i64 z9] 42))) := K3b.out.alloc _; have KW3c : Hid (Kpt ((w.alloc (.cells #[.int .i64 T, .slice (some ⟨g, off, none⟩) n c, .slice ab b.length cb] 31)).alloc (.cells #[.int .i64 0, .slice none 0 0, .slice none 0 0] 31)) (w3.alloc (.cells #[.int .i64 z0, .int .i64 z1, .int .i64 z2, .int .i64 z3, .int .i64 z4, .int .i64 z5, .int .i64 z6, .int .i64 (z7 + m), .int .i64 z8, .int .i64 z9] 42))) := KW3.out.alloc _; have t3 : World.cell? (w3.alloc (.cells #[.int .i64 z0, .int .i64 z1, .int .i64 z2, .int .i64 z3, .int .i64 z4, .int .i64 z5, .int .i64 z6, .int .i64 (z7 + m), .int .i64 z8, .int .i64 z9] 42)) ⟨w.heap.size, 2, none⟩ = some (.slice ab b.length cb) := (B2.out.kpt KW3c.out).cell 2; have R10 : Hid (Blk (w3.alloc (.cells #[.int .i64 z0, .int .i64 z1, .int .i64 z2, .int .i64 z3, .int .i64 z4, .int .i64 z5, .int .i64 z6, .int .i64 (z7 + m), .int .i64 z8, .int .i64 z9] 42)) w3.heap.size #[.int .i64 z0, .int .i64 z1, .int .i64 z2, .int .i64 z3, .int .i64 z4, .int .i64 z5, .int .i64 z6, .int .i64 (z7 + m), .int .i64 z8, .int .i64 z9] 42) := Blk.made _ _ _; have KP : Hid (Kpt w ((w3.alloc (.cells #[.int .i64 z0, .int .i64 z1, .int .i64 z2, .int .i64 z3, .int .i64 z4, .int .i64 z5, .int .i64 z6, .int .i64 (z7 + m), .int .i64 z8, .int .i64 z9] 42)).alloc (.cells #[.int .i64 z1, .int .i64 z4, .int .i64 (-m), .int .i64 z2, .int .i64 z4, .int .i64 m] 55))) := K3c.out.alloc _; have KWP : Hid (Kpt ((w.alloc (.cells #[.int .i64 T, .slice (some ⟨g, off, none⟩) n c, .slice ab b.length cb] 31)).alloc (.cells #[.int .i64 0, .slice none 0 0, .slice none 0 0] 31)) ((w3.alloc (.cells #[.int .i64 z0, .int .i64 z1, .int .i64 z2, .int .i64 z3, .int .i64 z4, .int .i64 z5, .int .i64 z6, .int .i64 (z7 + m), .int .i64 z8, .int .i64 z9] 42)).alloc (.cells #[.int .i64 z1, .int .i64 z4, .int .i64 (-m), .int .i64 z2, .int .i64 z4, .int .i64 m] 55))) := KW3c.out.alloc _; have BP : Hid (Blk ((w3.alloc (.cells #[.int .i64 z0, .int .i64 z1, .int .i64 z2, .int .i64 z3, .int .i64 z4, .int .i64 z5, .int .i64 z6, .int .i64 (z7 + m), .int .i64 z8, .int .i64 z9] 42)).alloc (.cells #[.int .i64 z1, .int .i64 z4, .int .i64 (-m), .int .i64 z2, .int .i64 z4, .int .i64 m] 55)) (w3.heap.size + 1) #[.int .i64 z1, .int .i64 z4, .int .i64 (-m), .int .i64 z2, .int .i64 z4, .int .i64 m] 55) := (by have := Blk.made (w3.alloc (.cells #[.int .i64 z0, .int .i64 z1, .int .i64 z2, .int .i64 z3, .int .i64 z4, .int .i64 z5, .int .i64 z6, .int .i64 (z7 + m), .int .i64 z8, .int .i64 z9] 42)) #[.int .i64 z1, .int .i64 z4, .int .i64 (-m), .int .i64 z2, .int .i64 z4, .int .i64 m] 55; rw [World.size_alloc] at this; exact this); have RP : Hid (ReadsP ((w3.alloc (.cells #[.int .i64 z0, .int .i64 z1, .int .i64 z2, .int .i64 z3, .int .i64 z4, .int .i64 z5, .int .i64 z6, .int .i64 (z7 + m), .int .i64 z8, .int .i64 z9] 42)).alloc (.cells #[.int .i64 z1, .int .i64 z4, .int .i64 (-m), .int .i64 z2, .int .i64 z4, .int .i64 m] 55)) (.slice (some ⟨w3.heap.size + 1, 0, none⟩) 2 2) [(z1, z4, -m), (z2, z4, m)]) := two_postU BP.out DI.out; clear kk FL d0 d1 d2 d3 d4 d5 d6 d7 d8 d9 t2)
    | (go_at_call 43; (with_reducible refine (PS.out _ _ KP.out RP.out).mono ?_); rintro z w4 ⟨R, v, rfl, hR, ho, kk⟩; rw [hR] at ho; clear hR; have K4 : Hid (Kpt w w4) := ktr KP.out kk; have KW4 : Hid (Kpt ((w.alloc (.cells #[.int .i64 T, .slice (some ⟨g, off, none⟩) n c, .slice ab b.length cb] 31)).alloc (.cells #[.int .i64 0, .slice none 0 0, .slice none 0 0] 31)) w4) := ktr KWP.out kk; have OB4 := Lib.hid ho; obtain ⟨pa, pc, rfl⟩ := OwnsP.form ho; have Z4 := Lib.hid (B4.out.kpt KW4.out); clear ho kk PS t3)
    | (refine wp_storeW rfl (.tmp 6) (.tmp 62) rfl (w.heap.size + 1) _ _ rfl rfl Z4.out rfl rfl (by simp [Value.oneCell']) ?_; intro w9 r9 k9 o9; have R9 := Lib.hid r9; have K9 : Hid (Kpt w w9) := k9 _ _ K4.out (by omega); clear r9 k9 o9)
    | fail)
  exact bodyPost_ret (v := .tuple #[.agg #[.int .i64 0, .slice none 0 0, .slice none 0 0], .int .i64 E]) (results_W2 Tryz.results23 _ _ _ _ _ rfl rfl R9.out rfl) rfl (FIN.out _ K9.out)
set_option maxRecDepth 100000 in
set_option maxHeartbeats 4000000 in
theorem rdel_ok (T iD m : Int) (a : Option Addr) (c : Nat) (ab : Option Addr) (cb : Nat) (fs : List (List Int)) (b : List (Int × Int × Int)) (w : World) (hF : ReadsF w (.slice a fs.length c) fs) (hn : NilC (.slice a fs.length c)) (hb : ReadsP w (.slice ab b.length cb) b) (hw : wldE T fs b = 0) (hi : ¬ idxF iD fs 0 < 0) (ht : tkL (atF iD fs) m = 0) (hp : pstE b (delL (atF iD fs) m) = 0) : Calls Tryz.prog 23 #[.agg #[.int .i64 T, .slice a fs.length c, .slice ab b.length cb], .int .i64 iD, .int .i64 m] w (RwRes w (dvE T iD m fs b) (dvT T iD m fs b) (dvF T iD m fs b) (dvB T iD m fs b)) := by
  have hE : dvE T iD m fs b = 0 := by unfold dvE orE dlE; rw [if_pos hw, if_neg hi, if_pos ht]; unfold cpoE; rw [if_neg (by simp [delL])]; exact hp
  have q1 : dvT T iD m fs b = T := if_pos hE
  have q2 : dvF T iD m fs b = fs.set (ixF iD fs) (delF (atF iD fs) m) := if_pos hE
  have q3 : dvB T iD m fs b = pstR b (delL (atF iD fs) m) := (if_pos hE).trans (by unfold cpoB; rw [if_neg (by simp [delL]), if_pos hp])
  rw [hE, q1, q2, q3]
  clear hE q1 q2 q3
  have FBs : Hid (∀ x ∈ fs.set (ixF iD fs) (delF (atF iD fs) m), FlB x) := fun x hx => by
    rcases List.mem_or_eq_of_mem_set hx with e | e
    · exact flB_fail (ck_fail (wld_0 hw).2.1 x e)
    · rw [e]; exact flB_fail (del_ok2 ht)
  have IBR : Hid (InP (pstR b (delL (atF iD fs) m))) := inp_lin (pst_posted hp).lines
  have RWD : Hid (rowN 10 (delF (atF iD fs) m) = [.int .i64 ((atF iD fs).getD 0 0), .int .i64 ((atF iD fs).getD 1 0), .int .i64 ((atF iD fs).getD 2 0), .int .i64 ((atF iD fs).getD 3 0), .int .i64 ((atF iD fs).getD 4 0), .int .i64 ((atF iD fs).getD 5 0), .int .i64 ((atF iD fs).getD 6 0), .int .i64 ((atF iD fs).getD 7 0 + m), .int .i64 ((atF iD fs).getD 8 0), .int .i64 ((atF iD fs).getD 9 0)]) := rfl
  have hlt : ixF iD fs < fs.length := by
    rcases idx_bd iD fs 0 with e | e
    · exact absurd e hi
    · unfold ixF; omega
  have hie : idxF iD fs 0 = (ixF iD fs : Int) := by unfold ixF; omega
  have hce : ∃ g off, a = some ⟨g, off, none⟩ ∧ FlAt w g (off + ixF iD fs * 10) (atF iD fs) := by
    obtain ⟨x, cap, e, -, -, hc⟩ := hF
    injection e with e1 e2 e3
    subst e1
    exact hc _ hlt
  have hlen := ck60 (wld_0 hw).2.1
  have PS : Hid (∀ w' u, Kpt w w' → ReadsP w' u (delL (atF iD fs) m) → Calls Tryz.prog 43 #[.slice ab b.length cb, u] w' fun e w'' => ∃ R v, e = .returned (.tuple #[v, .int .i64 (pstE b (delL (atF iD fs) m))]) ∧ R = pstR b (delL (atF iD fs) m) ∧ OwnsP w'' w'.heap.size v R ∧ Kpt w' w'') := fun w' u k r => by
    refine (rpost_any _ u b _ w' (hb.kpt k) r).mono ?_
    rintro e w'' ⟨k2, R, E, v, h1, h2, rfl⟩
    obtain ⟨rfl, e2⟩ := pst_is h1
    exact ⟨R, v, rfl, e2, h2, k2⟩
  have FL : Hid (∀ w', Calls Tryz.prog 64 #[.agg #[.int .i64 ((atF iD fs).getD 0 0), .int .i64 ((atF iD fs).getD 1 0), .int .i64 ((atF iD fs).getD 2 0), .int .i64 ((atF iD fs).getD 3 0), .int .i64 ((atF iD fs).getD 4 0), .int .i64 ((atF iD fs).getD 5 0), .int .i64 ((atF iD fs).getD 6 0), .int .i64 ((atF iD fs).getD 7 0), .int .i64 ((atF iD fs).getD 8 0), .int .i64 ((atF iD fs).getD 9 0)], .int .i64 m, .int .i64 1] w' fun e w'' => e = .returned (.tuple #[.agg #[.int .i64 ((atF iD fs).getD 0 0), .int .i64 ((atF iD fs).getD 1 0), .int .i64 ((atF iD fs).getD 2 0), .int .i64 ((atF iD fs).getD 3 0), .int .i64 ((atF iD fs).getD 4 0), .int .i64 ((atF iD fs).getD 5 0), .int .i64 ((atF iD fs).getD 6 0), .int .i64 ((atF iD fs).getD 7 0 + m), .int .i64 ((atF iD fs).getD 8 0), .int .i64 ((atF iD fs).getD 9 0)], .int .i64 0]) ∧ Kpt w' w'') := fun w' => by
    refine (rless_run (atF iD fs) m w').mono ?_
    rintro e w'' ⟨h1, h2, k⟩
    exact ⟨h2 ht, k⟩
  have DI : Hid (InP (delL (atF iD fs) m)) := inP_of (delL_pt ht)
  have wn : IntKind.i64.wrap (-m) = -m := IntWalk.i64_in _ (by have := tk_0 ht; omega)
  have WC := Lib.hid (fun w' (k : Kpt w w') => rwc_run T (.slice a fs.length c) (.slice ab b.length cb) fs b w' (hF.kpt k) (hb.kpt k))
  have FF := Lib.hid (fun w' (k : Kpt w w') => rff_run (.slice a fs.length c) fs iD w' (hF.kpt k))
  have HF := Lib.hid hF
  have HNil := Lib.hid hn
  have HB := Lib.hid hb
  rw [hw] at WC
  clear hF hn hb hw
  obtain ⟨n, hn'⟩ : ∃ n, n = fs.length := ⟨_, rfl⟩
  rw [← hn'] at WC FF HF HNil ⊢
  have HN := Lib.hid hn'
  clear hn'
  have K3 : Hid (Kpt w ((w.alloc (.cells #[.int .i64 T, .slice a n c, .slice ab b.length cb] 31)).alloc (.cells #[.int .i64 0, .slice none 0 0, .slice none 0 0] 31))) := ((Kpt.refl w).alloc _).alloc _
  have B2 : Hid (Blk ((w.alloc (.cells #[.int .i64 T, .slice a n c, .slice ab b.length cb] 31)).alloc (.cells #[.int .i64 0, .slice none 0 0, .slice none 0 0] 31)) w.heap.size #[.int .i64 T, .slice a n c, .slice ab b.length cb] 31) := (Blk.made w _ _).alloc _
  have B4 : Hid (Blk ((w.alloc (.cells #[.int .i64 T, .slice a n c, .slice ab b.length cb] 31)).alloc (.cells #[.int .i64 0, .slice none 0 0, .slice none 0 0] 31)) (w.heap.size + 1) #[.int .i64 0, .slice none 0 0, .slice none 0 0] 31) := by
    have := Blk.made (w.alloc (.cells #[.int .i64 T, .slice a n c, .slice ab b.length cb] 31)) #[.int .i64 0, .slice none 0 0, .slice none 0 0] 31
    rw [World.size_alloc] at this
    exact this
  rw [hp] at PS
  clear ht hp
  rw [hie] at FF
  obtain ⟨g, off, rfl, hfl⟩ := hce
  have hlt' : ixF iD fs < n := by rw [HN.out]; exact hlt
  have HLT := Lib.hid hlt
  have HLEN := Lib.hid hlen
  clear hlt hie hi hlen
  generalize ixF iD fs = ix at *
  generalize atF iD fs = l at *
  have i0 : (0 : Int) ≤ (ix : Int) := by omega
  have i1 : (ix : Int) < (n : Int) := by omega
  have qi : decide ((ix : Int) < 0) = false := decide_eq_false (by omega)
  have c0_ : w.cell? ⟨g, off + ix * 10, none⟩ = some (.int .i64 (l.getD 0 0)) := hfl 0 (by decide)
  have c1_ : w.cell? ⟨g, off + ix * 10 + 1, none⟩ = some (.int .i64 (l.getD 1 0)) := hfl 1 (by decide)
  have c2_ : w.cell? ⟨g, off + ix * 10 + 2, none⟩ = some (.int .i64 (l.getD 2 0)) := hfl 2 (by decide)
  have c3_ : w.cell? ⟨g, off + ix * 10 + 3, none⟩ = some (.int .i64 (l.getD 3 0)) := hfl 3 (by decide)
  have c4_ : w.cell? ⟨g, off + ix * 10 + 4, none⟩ = some (.int .i64 (l.getD 4 0)) := hfl 4 (by decide)
  have c5_ : w.cell? ⟨g, off + ix * 10 + 5, none⟩ = some (.int .i64 (l.getD 5 0)) := hfl 5 (by decide)
  have c6_ : w.cell? ⟨g, off + ix * 10 + 6, none⟩ = some (.int .i64 (l.getD 6 0)) := hfl 6 (by decide)
  have c7_ : w.cell? ⟨g, off + ix * 10 + 7, none⟩ = some (.int .i64 (l.getD 7 0)) := hfl 7 (by decide)
  have c8_ : w.cell? ⟨g, off + ix * 10 + 8, none⟩ = some (.int .i64 (l.getD 8 0)) := hfl 8 (by decide)
  have c9_ : w.cell? ⟨g, off + ix * 10 + 9, none⟩ = some (.int .i64 (l.getD 9 0)) := hfl 9 (by decide)
  clear hfl
  change Hid (InP [(l.getD 1 0, l.getD 4 0, -m), (l.getD 2 0, l.getD 4 0, m)]) at DI
  change Hid (∀ w' u, Kpt w w' → ReadsP w' u [(l.getD 1 0, l.getD 4 0, -m), (l.getD 2 0, l.getD 4 0, m)] → _) at PS
  generalize pstR b (delL l m) = RR at *
  generalize delF l m = dl at *
  generalize l.getD 0 0 = z0 at *
  generalize l.getD 1 0 = z1 at *
  generalize l.getD 2 0 = z2 at *
  generalize l.getD 3 0 = z3 at *
  generalize l.getD 4 0 = z4 at *
  generalize l.getD 5 0 = z5 at *
  generalize l.getD 6 0 = z6 at *
  generalize l.getD 7 0 = z7 at *
  generalize l.getD 8 0 = z8 at *
  generalize l.getD 9 0 = z9 at *
  go_enter Tryz.func23, Tryz.ntmps23
  go_wp2_with (first
    | (go_at_call 17; (with_reducible refine (WC.out _ K3.out).mono ?_); rintro z w1 ⟨rfl, kk⟩; have K1 : Hid (Kpt w w1) := ktr K3.out kk; have KW1 : Hid (Kpt ((w.alloc (.cells #[.int .i64 T, .slice (some ⟨g, off, none⟩) n c, .slice ab b.length cb] 31)).alloc (.cells #[.int .i64 0, .slice none 0 0, .slice none 0 0] 31)) w1) := kk; have Z1 := Lib.hid (B4.out.kpt kk); have t1 : World.cell? w1 ⟨w.heap.size, 1, none⟩ = some (.slice (some ⟨g, off, none⟩) n c) := (B2.out.kpt kk).cell 1;  clear kk WC)
    | (go_at_call 63; (with_reducible refine (FF.out _ K1.out).mono ?_); rintro z w2 ⟨rfl, kk⟩; have K2 : Hid (Kpt w w2) := ktr K1.out kk; have KW2 : Hid (Kpt ((w.alloc (.cells #[.int .i64 T, .slice (some ⟨g, off, none⟩) n c, .slice ab b.length cb] 31)).alloc (.cells #[.int .i64 0, .slice none 0 0, .slice none 0 0] 31)) w2) := ktr KW1.out kk; have Z2 := Lib.hid (B4.out.kpt KW2.out); have d0 := K2.out.cell c0_; have d1 := K2.out.cell c1_; have d2 := K2.out.cell c2_; have d3 := K2.out.cell c3_; have d4 := K2.out.cell c4_; have d5 := K2.out.cell c5_; have d6 := K2.out.cell c6_; have d7 := K2.out.cell c7_; have d8 := K2.out.cell c8_; have d9 := K2.out.cell c9_; have t2 : World.cell? w2 ⟨w.heap.size, 1, none⟩ = some (.slice (some ⟨g, off, none⟩) n c) := (B2.out.kpt KW2.out).cell 1; clear kk FF)
    | (go_at_call 64; (with_reducible refine (FL.out _).mono ?_); rintro z w3 ⟨rfl, kk⟩; have K3b : Hid (Kpt w w3) := ktr K2.out kk; have KW3 : Hid (Kpt ((w.alloc (.cells #[.int .i64 T, .slice (some ⟨g, off, none⟩) n c, .slice ab b.length cb] 31)).alloc (.cells #[.int .i64 0, .slice none 0 0, .slice none 0 0] 31)) w3) := ktr KW2.out kk; have K3c : Hid (Kpt w (w3.alloc (.cells #[.int .i64 z0, .int .i64 z1, .int .i64 z2, .int .i64 z3, .int .i64 z4, .int .i64 z5, .int .i64 z6, .int .i64 (z7 + m), .int .i64 z8, .int .i64 z9] 42))) := K3b.out.alloc _; have KW3c : Hid (Kpt ((w.alloc (.cells #[.int .i64 T, .slice (some ⟨g, off, none⟩) n c, .slice ab b.length cb] 31)).alloc (.cells #[.int .i64 0, .slice none 0 0, .slice none 0 0] 31)) (w3.alloc (.cells #[.int .i64 z0, .int .i64 z1, .int .i64 z2, .int .i64 z3, .int .i64 z4, .int .i64 z5, .int .i64 z6, .int .i64 (z7 + m), .int .i64 z8, .int .i64 z9] 42))) := KW3.out.alloc _; have t3 : World.cell? (w3.alloc (.cells #[.int .i64 z0, .int .i64 z1, .int .i64 z2, .int .i64 z3, .int .i64 z4, .int .i64 z5, .int .i64 z6, .int .i64 (z7 + m), .int .i64 z8, .int .i64 z9] 42)) ⟨w.heap.size, 2, none⟩ = some (.slice ab b.length cb) := (B2.out.kpt KW3c.out).cell 2; have R10 : Hid (Blk (w3.alloc (.cells #[.int .i64 z0, .int .i64 z1, .int .i64 z2, .int .i64 z3, .int .i64 z4, .int .i64 z5, .int .i64 z6, .int .i64 (z7 + m), .int .i64 z8, .int .i64 z9] 42)) w3.heap.size #[.int .i64 z0, .int .i64 z1, .int .i64 z2, .int .i64 z3, .int .i64 z4, .int .i64 z5, .int .i64 z6, .int .i64 (z7 + m), .int .i64 z8, .int .i64 z9] 42) := Blk.made _ _ _; have KP : Hid (Kpt w ((w3.alloc (.cells #[.int .i64 z0, .int .i64 z1, .int .i64 z2, .int .i64 z3, .int .i64 z4, .int .i64 z5, .int .i64 z6, .int .i64 (z7 + m), .int .i64 z8, .int .i64 z9] 42)).alloc (.cells #[.int .i64 z1, .int .i64 z4, .int .i64 (-m), .int .i64 z2, .int .i64 z4, .int .i64 m] 55))) := K3c.out.alloc _; have KWP : Hid (Kpt ((w.alloc (.cells #[.int .i64 T, .slice (some ⟨g, off, none⟩) n c, .slice ab b.length cb] 31)).alloc (.cells #[.int .i64 0, .slice none 0 0, .slice none 0 0] 31)) ((w3.alloc (.cells #[.int .i64 z0, .int .i64 z1, .int .i64 z2, .int .i64 z3, .int .i64 z4, .int .i64 z5, .int .i64 z6, .int .i64 (z7 + m), .int .i64 z8, .int .i64 z9] 42)).alloc (.cells #[.int .i64 z1, .int .i64 z4, .int .i64 (-m), .int .i64 z2, .int .i64 z4, .int .i64 m] 55))) := KW3c.out.alloc _; have BP : Hid (Blk ((w3.alloc (.cells #[.int .i64 z0, .int .i64 z1, .int .i64 z2, .int .i64 z3, .int .i64 z4, .int .i64 z5, .int .i64 z6, .int .i64 (z7 + m), .int .i64 z8, .int .i64 z9] 42)).alloc (.cells #[.int .i64 z1, .int .i64 z4, .int .i64 (-m), .int .i64 z2, .int .i64 z4, .int .i64 m] 55)) (w3.heap.size + 1) #[.int .i64 z1, .int .i64 z4, .int .i64 (-m), .int .i64 z2, .int .i64 z4, .int .i64 m] 55) := (by have := Blk.made (w3.alloc (.cells #[.int .i64 z0, .int .i64 z1, .int .i64 z2, .int .i64 z3, .int .i64 z4, .int .i64 z5, .int .i64 z6, .int .i64 (z7 + m), .int .i64 z8, .int .i64 z9] 42)) #[.int .i64 z1, .int .i64 z4, .int .i64 (-m), .int .i64 z2, .int .i64 z4, .int .i64 m] 55; rw [World.size_alloc] at this; exact this); have RP : Hid (ReadsP ((w3.alloc (.cells #[.int .i64 z0, .int .i64 z1, .int .i64 z2, .int .i64 z3, .int .i64 z4, .int .i64 z5, .int .i64 z6, .int .i64 (z7 + m), .int .i64 z8, .int .i64 z9] 42)).alloc (.cells #[.int .i64 z1, .int .i64 z4, .int .i64 (-m), .int .i64 z2, .int .i64 z4, .int .i64 m] 55)) (.slice (some ⟨w3.heap.size + 1, 0, none⟩) 2 2) [(z1, z4, -m), (z2, z4, m)]) := two_postU BP.out DI.out; clear kk FL d0 d1 d2 d3 d4 d5 d6 d7 d8 d9 t2)
    | (go_at_call 43; (with_reducible refine (PS.out _ _ KP.out RP.out).mono ?_); rintro z w4 ⟨R, v, rfl, hR, ho, kk⟩; rw [hR] at ho; clear hR; have K4 : Hid (Kpt w w4) := ktr KP.out kk; have KW4 : Hid (Kpt ((w.alloc (.cells #[.int .i64 T, .slice (some ⟨g, off, none⟩) n c, .slice ab b.length cb] 31)).alloc (.cells #[.int .i64 0, .slice none 0 0, .slice none 0 0] 31)) w4) := ktr KWP.out kk; have OB4 := Lib.hid ho; obtain ⟨pa, pc, rfl⟩ := OwnsP.form ho; have Z4 := Lib.hid (B4.out.kpt KW4.out); have t4 : World.cell? w4 ⟨w.heap.size, 1, none⟩ = some (.slice (some ⟨g, off, none⟩) n c) := (B2.out.kpt KW4.out).cell 1; have t40 : World.cell? w4 ⟨w.heap.size, 0, none⟩ = some (.int .i64 T) := (B2.out.kpt KW4.out).cell 0; have R14 : Hid (Blk w4 w3.heap.size #[.int .i64 z0, .int .i64 z1, .int .i64 z2, .int .i64 z3, .int .i64 z4, .int .i64 z5, .int .i64 z6, .int .i64 (z7 + m), .int .i64 z8, .int .i64 z9] 42) := (R10.out.alloc _).kpt kk; have OE : Hid (OwnsN 10 42 (w4.alloc (.cells #[] 42)) w4.heap.size (.slice (some ⟨w4.heap.size, 0, none⟩) 0 0) []) := OwnsN.empty 10 42 w4 w4.heap.size (Nat.le_refl _); have KE : Hid (Kpt w4 (w4.alloc (.cells #[] 42))) := (Kpt.refl _).alloc _; have tE : World.cell? (w4.alloc (.cells #[] 42)) ⟨w.heap.size, 1, none⟩ = some (.slice (some ⟨g, off, none⟩) n c) := KE.out.cell t4; have lenR : ([] : List (List Int)).length + fs.length ≤ 100000 := (by have h1 : fs.length ≤ 60 := HLEN.out; simp; omega); clear ho kk PS t3)
    | (at_builtin; refine wp_appendFn rfl (.tmp 64) (.tmp 66) rfl w4.heap.size w4.heap.size 0 0 (.slice (some ⟨g, off, none⟩) n c) [] fs rfl OE.out rfl (HF.out.kpt (ktr K4.out KE.out)) HNil.out lenR (by simp) n fs (by simp; exact HN.out) rfl ?_; intro g5 cp5 w5 o5 gr5 ge5; have K45 : Hid (Kpt w4 w5) := kp_grown KE.out (Nat.le_refl _) gr5; have GE5 : Hid (w4.heap.size ≤ g5) := ge5; have O5 := Lib.hid o5; have h0 := (R14.out.kpt K45.out).cell 0; have h1 := (R14.out.kpt K45.out).cell 1; have h2 := (R14.out.kpt K45.out).cell 2; have h3 := (R14.out.kpt K45.out).cell 3; have h4 := (R14.out.kpt K45.out).cell 4; have h5 := (R14.out.kpt K45.out).cell 5; have h6 := (R14.out.kpt K45.out).cell 6; have h7 := (R14.out.kpt K45.out).cell 7; have h8 := (R14.out.kpt K45.out).cell 8; have h9 := (R14.out.kpt K45.out).cell 9; clear o5 gr5 ge5)
    | (refine wp_storeFk rfl (.tmp 71) (.tmp 70) rfl g5 ix n cp5 w4.heap.size #[.int .i64 z0, .int .i64 z1, .int .i64 z2, .int .i64 z3, .int .i64 z4, .int .i64 z5, .int .i64 z6, .int .i64 (z7 + m), .int .i64 z8, .int .i64 z9] fs dl rfl rfl RWD.out.symm O5.out HLT.out ?_; intro w6 o6 k6; have O6 := Lib.hid o6; have K46 : Hid (Kpt w4 w6) := k6 _ _ K45.out GE5.out; have K6 : Hid (Kpt w w6) := ktr K4.out K46.out; have t6 : World.cell? w6 ⟨w.heap.size, 0, none⟩ = some (.int .i64 T) := K46.out.cell t40; have Z6 := Lib.hid (Z4.out.kpt K46.out); have OB6 : Hid (OwnsP w6 _ (.slice pa RR.length pc) RR) := row_kpt OB4.out K46.out; clear o6 k6)
    | (refine wp_storeW rfl (.tmp 6) (.tmp 76) rfl (w.heap.size + 1) _ _ rfl rfl Z6.out rfl rfl (by simp [Value.oneCell']) ?_; intro w9 r9 k9 o9; have R9 := Lib.hid r9; have K9 : Hid (Kpt w w9) := k9 _ _ K6.out (by omega); have RZ9 : ReadsF w9 (.slice (some ⟨g5, 0, none⟩) n cp5) (fs.set ix dl) := OwnsN.readsF (row_put O6.out Z6.out o9 (by decide)) FBs.out; have RB9 : ReadsP w9 (.slice pa RR.length pc) RR := OwnsP.reads (row_put OB6.out Z6.out o9 (by decide)) IBR.out; clear r9 k9 o9)
    | fail)
  exact bodyPost_ret (v := .tuple #[.agg #[.int .i64 T, .slice (some ⟨g5, 0, none⟩) n cp5, .slice pa RR.length pc], .int .i64 0]) (results_W2 Tryz.results23 _ _ _ _ _ rfl rfl R9.out rfl) rfl ⟨_, _, rfl, ⟨RZ9, _, _, _, rfl⟩, ⟨RB9, _, _, _, rfl⟩, K9.out⟩
end Go.Proofs.YthaahebggboliaaGreat
