/-
  Merged: FlStep, LawCA.
-/
import Derived.Test.YthaahebggboliaaGreatMr
import Derived.Test.YthaahebggboliaaGreatMcb
import Derived.Deep.RegionHeld3
import Derived.Deep.AppendLies
import Derived.Test.YthaahebggboliaaGreatMcr
import Derived.Test.YthaahebggboliaaGreatMsw
-- FlStep
namespace Go.Proofs.YthaahebggboliaaGreat
open Go.RowKit Go.Lib
set_option linter.unusedVariables false

theorem newsF {w : World} {g off : Nat} {gs : List (List Int)} (h : ∀ q, q < gs.length → FlAt w g (off + q * 10) (gs.getD q [])) : ∀ j u, (flatN 10 gs)[j]? = some u → w.cell? ((⟨g, off, none⟩ : Addr).add j) = some u := by
  intro j u hu
  have hj : j < gs.length * 10 := by
    have := (List.getElem?_eq_some_iff.1 hu).1
    rwa [flatN_len] at this
  obtain ⟨q, r, hr, rfl⟩ : ∃ q r, r < 10 ∧ j = q * 10 + r := ⟨j / 10, j % 10, by omega, by omega⟩
  have hq : q < gs.length := by omega
  have ea : (⟨g, off, none⟩ : Addr).add (q * 10 + r) = ⟨g, off + q * 10 + r, none⟩ := by simp [Addr.add, Nat.add_assoc]
  rw [ea]
  rw [flatN_at gs q r hq hr] at hu
  rw [← hu]
  exact h q hq r hr
/-- append of fails that are read to a slice of the call's own that is not nil -/
theorem step_appendFs {ops : Array Oper} {o : Oper} {a : Act} {w : World} {K : Act → World → Prop} {Q : Exit → Act → World → Prop} {E : Prop} (hgd : o.guard = none) (s x : Operand)
    (ho : o.op = .call { callee := .builtin .append, args := #[s, x], argTypes := #[28, 28] })
    (base B n c : Nat) (u : Value) (fs gs : List (List Int)) (hs : a.eval s = .slice (some ⟨B, 0, none⟩) n c) (hown : OwnsN 10 42 w base (.slice (some ⟨B, 0, none⟩) n c) fs) (hx : a.eval x = u) (hr : ReadsF w u gs) (hn : NilC u)
    (hlen : fs.length + gs.length ≤ 100000) (hbase : base ≤ w.heap.size) (m : Nat) (L : List (List Int)) (hm : m = fs.length + gs.length) (hL : L = fs ++ gs)
    (h : ∀ g cap w', OwnsN 10 42 w' base (.slice (some ⟨g, 0, none⟩) m cap) L → w.grownBy w' (some B) → base ≤ g → K (a.put o.dst (.slice (some ⟨g, 0, none⟩) m cap)) w') :
    if Region.wanted o (yielded ops a.tmps) = true then Oper.wp Tryz.prog o a w K Q else E := by
  have hw : Region.wanted o (yielded ops a.tmps) = true := by simp [Region.wanted, hgd]
  rw [if_pos hw]
  obtain ⟨i0, hi, hz0, hz1, hz2⟩ := info_parts Tryz.infoFail
  subst hm; subst hL
  obtain ⟨ad, cap', rfl, hmm, hb, hc⟩ := hr
  have fin : ∀ v' w', World.ownsRow w' base 42 10 v' (fs.length + gs.length) (flatN 10 fs ++ flatN 10 gs) → w.grownBy w' (some B) → ¬ v' = .slice none 0 0 → K (a.put o.dst v') w' := fun v' w' h1 h2 h3 => by
    have h4 : OwnsN 10 42 w' base v' (fs ++ gs) := by unfold OwnsN; rw [List.length_append, flatN_append]; exact h1
    rcases h4.2 with ⟨e, -⟩ | ⟨g, cap, cur, e, -⟩
    · exact absurd e h3
    · subst e
      have hg := h4.ge g (by simp [Value.ownBlock])
      rw [List.length_append] at h4 ⊢
      exact h g cap w' h4 h2 hg
  cases ad with
  | none =>
    obtain rfl := hn _ _ rfl
    have h0 : gs = [] := by
      cases gs with
      | nil => rfl
      | cons q l => obtain ⟨b, off, e, _⟩ := hc 0 (by simp); cases e
    subst h0
    have hrun := run_append_owned_none (P := Tryz.prog) (w := w) base 28 o.type 42 i0 10 Tryz.underlying28 hi _ _ _ hown
    unfold Oper.wp
    simp [execOp, ho, resolve, invoke, builtin, hs, hx, hrun, Result.andThen]
    refine fin _ w (by simpa [flatN] using (show World.ownsRow w base _ 10 _ fs.length (flatN 10 fs) from hown)) ⟨rfl, rfl, rfl, Nat.le_refl _, fun _ _ _ => rfl⟩ (fun e => by injection e with e; cases e)
  | some ad =>
    rcases Nat.eq_zero_or_pos gs.length with h0 | h0
    · obtain rfl : gs = [] := List.eq_nil_of_length_eq_zero h0
      refine wp_append_own _ s x 28 ho base 42 i0 _ 10 80 Tryz.underlying28 hi hz0 hz1 hz2 rfl (by decide) _ fs.length (flatN 10 fs) hs hown ad 0 cap' [] hx rfl (fun j u hu => by simp at hu) (fun u hu => by cases hu) (by unfold maxLen; simp at hlen; omega) (by simp at hlen; omega) hbase ?_
      intro v' w' h1 h2 h3
      exact fin v' w' (by simpa [flatN] using h1) h2 (fun e => by have := (h3.1 e).1; injection this with e; cases e)
    · obtain ⟨g, off, e, -⟩ := hc 0 h0
      have e := Option.some.inj e
      subst e
      refine wp_append_own _ s x 28 ho base 42 i0 _ 10 80 Tryz.underlying28 hi hz0 hz1 hz2 rfl (by decide) _ fs.length (flatN 10 fs) hs hown ⟨g, off, none⟩ gs.length cap' (flatN 10 gs) hx (flatN_len 10 gs) (newsF (fun q hq => ?_)) (flatN_one 10 gs) (by unfold maxLen; omega) (by omega) hbase ?_
      · obtain ⟨g', off', e, h1⟩ := hc q hq
        have e' := Option.some.inj e
        injection e' with e1 e2 _
        subst e1 e2
        exact h1
      · intro v' w' h1 h2 h3
        exact fin v' w' h1 h2 (fun e => by have := (h3.1 e).1; injection this with e; cases e)

theorem rf_two {w : World} {g : Nat} {cs : Array Value} {k l : List Int} (h : Blk w g cs 42) (e : cs.toList = flatN 10 [k, l]) (hk : FlB k) (hl : FlB l) : ReadsF w (.slice (some ⟨g, 0, none⟩) 2 2) [k, l] := by
  refine ⟨_, 2, rfl, (by unfold maxLen; simp), fun x hx => ?_, fun q hq => ⟨g, 0, rfl, fun j hj => ?_⟩⟩
  · rcases List.mem_cons.1 hx with rfl | hx
    · exact hk
    · rw [List.mem_singleton.1 hx]; exact hl
  · have h1 := flatN_at [k, l] q j hq hj
    rw [← e] at h1
    rw [Nat.zero_add, h.cell]
    simpa using h1
theorem rn_some {p : Addr} {n c : Nat} : NilC (.slice (some p) n c) := fun m cap e => by injection e with e; cases e
theorem kp_grown {w1 W wa : World} {B : Nat} (hW : Kpt w1 W) (hB : w1.heap.size ≤ B) (h : W.grownBy wa (some B)) : Kpt w1 wa :=
  Below.grown hW h hW.size (fun q e => by simp at e; omega)
theorem blk_grown2 {W wa : World} {B g : Nat} {cs : Array Value} {T : TypeId} (h : Blk W g cs T) (hne : g ≠ B) (hg : W.grownBy wa (some B)) : Blk wa g cs T := h.block (hg.block g h.lt (by simp; omega))

end Go.Proofs.YthaahebggboliaaGreat

-- LawCA
namespace Go.Proofs.YthaahebggboliaaGreat
open Go.RowKit Go.Sort Go.Lib
set_option linter.unusedVariables false

theorem inp_nil : InP [] := fun q hq => absurd hq (by simp)
set_option maxRecDepth 100000 in
set_option maxHeartbeats 4000000 in
theorem cad_no (T p0 p1 p2 p3 p4 p5 p6 p7 p8 p9 q0 q1 q2 q3 q4 q5 q6 q7 q8 q9 : Int) (a : Option Addr) (c : Nat) (ab : Option Addr) (cb : Nat) (fs : List (List Int)) (b : List (Int × Int × Int)) (w : World) (E : Int) (hE : (E != 0) = true)
    (A1 : ∀ w', Kpt w w' → Calls Tryz.prog 21 #[.agg #[.int .i64 T, .slice a fs.length c, .slice ab b.length cb], .agg #[.int .i64 p0, .int .i64 p1, .int .i64 p2, .int .i64 p3, .int .i64 p4, .int .i64 p5, .int .i64 p6, .int .i64 p7, .int .i64 p8, .int .i64 p9]] w' (WdRes w' E 0 [] [])) : Calls Tryz.prog 10 #[.agg #[.int .i64 T, .slice a fs.length c, .slice ab b.length cb], .agg #[.int .i64 p0, .int .i64 p1, .int .i64 p2, .int .i64 p3, .int .i64 p4, .int .i64 p5, .int .i64 p6, .int .i64 p7, .int .i64 p8, .int .i64 p9], .agg #[.int .i64 q0, .int .i64 q1, .int .i64 q2, .int .i64 q3, .int .i64 q4, .int .i64 q5, .int .i64 q6, .int .i64 q7, .int .i64 q8, .int .i64 q9]] w fun e w' => e = .returned (.bool true) ∧ Kpt w w' := by
  obtain ⟨n, hn'⟩ : ∃ n, n = fs.length := ⟨_, rfl⟩
  rw [← hn'] at A1 ⊢
  have HN := Lib.hid hn'
  clear hn'
  have K3 : Hid (Kpt w (((w.alloc (.cells #[.int .i64 T, .slice a n c, .slice ab b.length cb] 31)).alloc (.cells #[.int .i64 p0, .int .i64 p1, .int .i64 p2, .int .i64 p3, .int .i64 p4, .int .i64 p5, .int .i64 p6, .int .i64 p7, .int .i64 p8, .int .i64 p9] 42)).alloc (.cells #[.int .i64 q0, .int .i64 q1, .int .i64 q2, .int .i64 q3, .int .i64 q4, .int .i64 q5, .int .i64 q6, .int .i64 q7, .int .i64 q8, .int .i64 q9] 42))) := (((Kpt.refl w).alloc _).alloc _).alloc _
  have B3 : Hid (Blk (((w.alloc (.cells #[.int .i64 T, .slice a n c, .slice ab b.length cb] 31)).alloc (.cells #[.int .i64 p0, .int .i64 p1, .int .i64 p2, .int .i64 p3, .int .i64 p4, .int .i64 p5, .int .i64 p6, .int .i64 p7, .int .i64 p8, .int .i64 p9] 42)).alloc (.cells #[.int .i64 q0, .int .i64 q1, .int .i64 q2, .int .i64 q3, .int .i64 q4, .int .i64 q5, .int .i64 q6, .int .i64 q7, .int .i64 q8, .int .i64 q9] 42)) w.heap.size #[.int .i64 T, .slice a n c, .slice ab b.length cb] 31) := ((Blk.made w _ _).alloc _).alloc _
  have B4 : Hid (Blk (((w.alloc (.cells #[.int .i64 T, .slice a n c, .slice ab b.length cb] 31)).alloc (.cells #[.int .i64 p0, .int .i64 p1, .int .i64 p2, .int .i64 p3, .int .i64 p4, .int .i64 p5, .int .i64 p6, .int .i64 p7, .int .i64 p8, .int .i64 p9] 42)).alloc (.cells #[.int .i64 q0, .int .i64 q1, .int .i64 q2, .int .i64 q3, .int .i64 q4, .int .i64 q5, .int .i64 q6, .int .i64 q7, .int .i64 q8, .int .i64 q9] 42)) (w.heap.size + 1) #[.int .i64 p0, .int .i64 p1, .int .i64 p2, .int .i64 p3, .int .i64 p4, .int .i64 p5, .int .i64 p6, .int .i64 p7, .int .i64 p8, .int .i64 p9] 42) := by
    have := Blk.made (w.alloc (.cells #[.int .i64 T, .slice a n c, .slice ab b.length cb] 31)) #[.int .i64 p0, .int .i64 p1, .int .i64 p2, .int .i64 p3, .int .i64 p4, .int .i64 p5, .int .i64 p6, .int .i64 p7, .int .i64 p8, .int .i64 p9] 42
    rw [World.size_alloc] at this
    exact this.alloc _
  have B5 : Hid (Blk (((w.alloc (.cells #[.int .i64 T, .slice a n c, .slice ab b.length cb] 31)).alloc (.cells #[.int .i64 p0, .int .i64 p1, .int .i64 p2, .int .i64 p3, .int .i64 p4, .int .i64 p5, .int .i64 p6, .int .i64 p7, .int .i64 p8, .int .i64 p9] 42)).alloc (.cells #[.int .i64 q0, .int .i64 q1, .int .i64 q2, .int .i64 q3, .int .i64 q4, .int .i64 q5, .int .i64 q6, .int .i64 q7, .int .i64 q8, .int .i64 q9] 42)) (w.heap.size + 2) #[.int .i64 q0, .int .i64 q1, .int .i64 q2, .int .i64 q3, .int .i64 q4, .int .i64 q5, .int .i64 q6, .int .i64 q7, .int .i64 q8, .int .i64 q9] 42) := by
    have := Blk.made ((w.alloc (.cells #[.int .i64 T, .slice a n c, .slice ab b.length cb] 31)).alloc (.cells #[.int .i64 p0, .int .i64 p1, .int .i64 p2, .int .i64 p3, .int .i64 p4, .int .i64 p5, .int .i64 p6, .int .i64 p7, .int .i64 p8, .int .i64 p9] 42)) #[.int .i64 q0, .int .i64 q1, .int .i64 q2, .int .i64 q3, .int .i64 q4, .int .i64 q5, .int .i64 q6, .int .i64 q7, .int .i64 q8, .int .i64 q9] 42
    rw [World.size_alloc, World.size_alloc] at this
    exact this
  go_enter Tryz.func10, Tryz.ntmps10
  go_wp2_with (first
    | (go_at_call 21; (with_reducible refine (A1 _ K3.out).mono ?_); rintro e w1 ⟨fv1, bv1, rfl, of1, ob1, k1⟩; have K1 : Hid (Kpt w w1) := ktr K3.out k1; have KW1 : Hid (Kpt (((w.alloc (.cells #[.int .i64 T, .slice a n c, .slice ab b.length cb] 31)).alloc (.cells #[.int .i64 p0, .int .i64 p1, .int .i64 p2, .int .i64 p3, .int .i64 p4, .int .i64 p5, .int .i64 p6, .int .i64 p7, .int .i64 p8, .int .i64 p9] 42)).alloc (.cells #[.int .i64 q0, .int .i64 q1, .int .i64 q2, .int .i64 q3, .int .i64 q4, .int .i64 q5, .int .i64 q6, .int .i64 q7, .int .i64 q8, .int .i64 q9] 42)) w1) := k1; have OF1 := Lib.hid of1; have OB1 := Lib.hid ob1; obtain ⟨a1, c1, rfl⟩ := formN 0 of1 rfl; obtain ⟨b1, d1, rfl⟩ := formQ 0 ob1 rfl; have Z1 : Hid (Blk (w1.alloc (.cells #[.int .i64 0, .slice none 0 0, .slice none 0 0] 31)) w1.heap.size #[.int .i64 0, .slice none 0 0, .slice none 0 0] 31) := Blk.made _ _ _; have KZ1 : Hid (Kpt w (w1.alloc (.cells #[.int .i64 0, .slice none 0 0, .slice none 0 0] 31))) := K1.out.alloc _; clear of1 ob1 k1)
    | (refine wp_storeW rfl (.tmp 7) (.tmp 16) rfl w1.heap.size _ _ rfl rfl Z1.out rfl rfl (by simp [Value.oneCell']) ?_; intro w2 r2 k2 o2; have R2 := Lib.hid r2; have K2 : Hid (Kpt w w2) := k2 _ _ KZ1.out K1.out.size; have KK2 : Hid (Kpt w1 w2) := k2 _ _ ((Kpt.refl w1).alloc _) (Nat.le_refl _); clear r2 k2 o2)
    | (go_at_call 13; (with_reducible refine (cycleBegun_run _).mono ?_); rintro e w3 ⟨rfl, k3⟩; have K4 : Hid (Kpt w w3) := ktr K2.out k3; have KK3 : Hid (Kpt w1 w3) := ktr KK2.out k3;  have y0 : World.cell? w3 ⟨w1.heap.size, 0, none⟩ = some (.int .i64 0) := (Blk.kpt R2.out k3).cell 0; have y1 : World.cell? w3 ⟨w1.heap.size, 1, none⟩ = some (.slice a1 0 c1) := (Blk.kpt R2.out k3).cell 1; have y2 : World.cell? w3 ⟨w1.heap.size, 2, none⟩ = some (.slice b1 0 d1) := (Blk.kpt R2.out k3).cell 2; have RP3 : Hid (ReadsP w3 (.slice b1 0 d1) []) := OwnsP.reads (ps := []) (row_kpt OB1.out KK3.out) inp_nil; clear k3)
    | (go_at_call 18; (with_reducible refine (sameW_any 0 _ _ _ _ [] [] _ (readsF_nil _ _ _) (readsF_nil _ _ _) RP3.out (readsP_nil _ none 0 (fun _ => rfl))).mono ?_); rintro e w4 ⟨rfl, k4⟩; have K5 : Hid (Kpt w w4) := ktr K4.out k4; clear k4))
  go_ret
  exact ⟨rfl, K5.out⟩

set_option maxRecDepth 100000 in
set_option maxHeartbeats 4000000 in
theorem cad_no2 (T p0 p1 p2 p3 p4 p5 p6 p7 p8 p9 q0 q1 q2 q3 q4 q5 q6 q7 q8 q9 : Int) (a : Option Addr) (c : Nat) (ab : Option Addr) (cb : Nat) (fs : List (List Int)) (b : List (Int × Int × Int)) (w : World) (E : Int) (hE : (E != 0) = true)
    (FB : Hid (∀ l ∈ fs ++ [[p0, p1, p2, p3, p4, p5, p6, p7, p8, p9]], FlB l)) (IB : Hid (InP b)) (HL : Hid (fs.length ≤ 1000))
    (A1 : ∀ w', Kpt w w' → Calls Tryz.prog 21 #[.agg #[.int .i64 T, .slice a fs.length c, .slice ab b.length cb], .agg #[.int .i64 p0, .int .i64 p1, .int .i64 p2, .int .i64 p3, .int .i64 p4, .int .i64 p5, .int .i64 p6, .int .i64 p7, .int .i64 p8, .int .i64 p9]] w' (WdRes w' 0 T (fs ++ [[p0, p1, p2, p3, p4, p5, p6, p7, p8, p9]]) b))
    (A2 : ∀ w' v1 b1, ReadsF w' v1 (fs ++ [[p0, p1, p2, p3, p4, p5, p6, p7, p8, p9]]) → NilC v1 → ReadsP w' b1 b → Calls Tryz.prog 21 #[.agg #[.int .i64 T, v1, b1], .agg #[.int .i64 q0, .int .i64 q1, .int .i64 q2, .int .i64 q3, .int .i64 q4, .int .i64 q5, .int .i64 q6, .int .i64 q7, .int .i64 q8, .int .i64 q9]] w' (WdRes w' E 0 [] [])) : Calls Tryz.prog 10 #[.agg #[.int .i64 T, .slice a fs.length c, .slice ab b.length cb], .agg #[.int .i64 p0, .int .i64 p1, .int .i64 p2, .int .i64 p3, .int .i64 p4, .int .i64 p5, .int .i64 p6, .int .i64 p7, .int .i64 p8, .int .i64 p9], .agg #[.int .i64 q0, .int .i64 q1, .int .i64 q2, .int .i64 q3, .int .i64 q4, .int .i64 q5, .int .i64 q6, .int .i64 q7, .int .i64 q8, .int .i64 q9]] w fun e w' => e = .returned (.bool true) ∧ Kpt w w' := by
  obtain ⟨n, hn'⟩ : ∃ n, n = fs.length := ⟨_, rfl⟩
  rw [← hn'] at A1 HL ⊢
  have HN := Lib.hid hn'
  clear hn'
  have K3 : Hid (Kpt w (((w.alloc (.cells #[.int .i64 T, .slice a n c, .slice ab b.length cb] 31)).alloc (.cells #[.int .i64 p0, .int .i64 p1, .int .i64 p2, .int .i64 p3, .int .i64 p4, .int .i64 p5, .int .i64 p6, .int .i64 p7, .int .i64 p8, .int .i64 p9] 42)).alloc (.cells #[.int .i64 q0, .int .i64 q1, .int .i64 q2, .int .i64 q3, .int .i64 q4, .int .i64 q5, .int .i64 q6, .int .i64 q7, .int .i64 q8, .int .i64 q9] 42))) := (((Kpt.refl w).alloc _).alloc _).alloc _
  have B3 : Hid (Blk (((w.alloc (.cells #[.int .i64 T, .slice a n c, .slice ab b.length cb] 31)).alloc (.cells #[.int .i64 p0, .int .i64 p1, .int .i64 p2, .int .i64 p3, .int .i64 p4, .int .i64 p5, .int .i64 p6, .int .i64 p7, .int .i64 p8, .int .i64 p9] 42)).alloc (.cells #[.int .i64 q0, .int .i64 q1, .int .i64 q2, .int .i64 q3, .int .i64 q4, .int .i64 q5, .int .i64 q6, .int .i64 q7, .int .i64 q8, .int .i64 q9] 42)) w.heap.size #[.int .i64 T, .slice a n c, .slice ab b.length cb] 31) := ((Blk.made w _ _).alloc _).alloc _
  have B4 : Hid (Blk (((w.alloc (.cells #[.int .i64 T, .slice a n c, .slice ab b.length cb] 31)).alloc (.cells #[.int .i64 p0, .int .i64 p1, .int .i64 p2, .int .i64 p3, .int .i64 p4, .int .i64 p5, .int .i64 p6, .int .i64 p7, .int .i64 p8, .int .i64 p9] 42)).alloc (.cells #[.int .i64 q0, .int .i64 q1, .int .i64 q2, .int .i64 q3, .int .i64 q4, .int .i64 q5, .int .i64 q6, .int .i64 q7, .int .i64 q8, .int .i64 q9] 42)) (w.heap.size + 1) #[.int .i64 p0, .int .i64 p1, .int .i64 p2, .int .i64 p3, .int .i64 p4, .int .i64 p5, .int .i64 p6, .int .i64 p7, .int .i64 p8, .int .i64 p9] 42) := by
    have := Blk.made (w.alloc (.cells #[.int .i64 T, .slice a n c, .slice ab b.length cb] 31)) #[.int .i64 p0, .int .i64 p1, .int .i64 p2, .int .i64 p3, .int .i64 p4, .int .i64 p5, .int .i64 p6, .int .i64 p7, .int .i64 p8, .int .i64 p9] 42
    rw [World.size_alloc] at this
    exact this.alloc _
  have B5 : Hid (Blk (((w.alloc (.cells #[.int .i64 T, .slice a n c, .slice ab b.length cb] 31)).alloc (.cells #[.int .i64 p0, .int .i64 p1, .int .i64 p2, .int .i64 p3, .int .i64 p4, .int .i64 p5, .int .i64 p6, .int .i64 p7, .int .i64 p8, .int .i64 p9] 42)).alloc (.cells #[.int .i64 q0, .int .i64 q1, .int .i64 q2, .int .i64 q3, .int .i64 q4, .int .i64 q5, .int .i64 q6, .int .i64 q7, .int .i64 q8, .int .i64 q9] 42)) (w.heap.size + 2) #[.int .i64 q0, .int .i64 q1, .int .i64 q2, .int .i64 q3, .int .i64 q4, .int .i64 q5, .int .i64 q6, .int .i64 q7, .int .i64 q8, .int .i64 q9] 42) := by
    have := Blk.made ((w.alloc (.cells #[.int .i64 T, .slice a n c, .slice ab b.length cb] 31)).alloc (.cells #[.int .i64 p0, .int .i64 p1, .int .i64 p2, .int .i64 p3, .int .i64 p4, .int .i64 p5, .int .i64 p6, .int .i64 p7, .int .i64 p8, .int .i64 p9] 42)) #[.int .i64 q0, .int .i64 q1, .int .i64 q2, .int .i64 q3, .int .i64 q4, .int .i64 q5, .int .i64 q6, .int .i64 q7, .int .i64 q8, .int .i64 q9] 42
    rw [World.size_alloc, World.size_alloc] at this
    exact this
  go_enter Tryz.func10, Tryz.ntmps10
  go_wp2_with (first
    | (go_at_call 21; (with_reducible refine (A1 _ K3.out).mono ?_); rintro e w1 ⟨fv1, bv1, rfl, of1, ob1, k1⟩; have K1 : Hid (Kpt w w1) := ktr K3.out k1; have KW1 : Hid (Kpt (((w.alloc (.cells #[.int .i64 T, .slice a n c, .slice ab b.length cb] 31)).alloc (.cells #[.int .i64 p0, .int .i64 p1, .int .i64 p2, .int .i64 p3, .int .i64 p4, .int .i64 p5, .int .i64 p6, .int .i64 p7, .int .i64 p8, .int .i64 p9] 42)).alloc (.cells #[.int .i64 q0, .int .i64 q1, .int .i64 q2, .int .i64 q3, .int .i64 q4, .int .i64 q5, .int .i64 q6, .int .i64 q7, .int .i64 q8, .int .i64 q9] 42)) w1) := k1; have OF1 := Lib.hid of1; have OB1 := Lib.hid ob1; obtain ⟨a1, n1, c1, rfl, e1⟩ := OwnsN.form of1; have HN1 : Hid (n1 = n + 1) := Lib.hid (by have e2 : n1 = _ := e1; rw [e2, HN.out]; simp); obtain ⟨b1, d1, rfl⟩ := OwnsP.form ob1; clear e1; have Z1 : Hid (Blk (w1.alloc (.cells #[.int .i64 0, .slice none 0 0, .slice none 0 0] 31)) w1.heap.size #[.int .i64 0, .slice none 0 0, .slice none 0 0] 31) := Blk.made _ _ _; have KZ1 : Hid (Kpt w (w1.alloc (.cells #[.int .i64 0, .slice none 0 0, .slice none 0 0] 31))) := K1.out.alloc _; clear of1 ob1 k1)
    | (refine wp_storeW rfl (.tmp 7) (.tmp 16) rfl w1.heap.size _ _ rfl rfl Z1.out rfl rfl (by simp [Value.oneCell']) ?_; intro w2 r2 k2 o2; have R2 := Lib.hid r2; have K2 : Hid (Kpt w w2) := k2 _ _ KZ1.out K1.out.size; have KK2 : Hid (Kpt w1 w2) := k2 _ _ ((Kpt.refl w1).alloc _) (Nat.le_refl _); clear r2 k2 o2)
    | (go_at_call 13; (with_reducible refine (cycleBegun_run _).mono ?_); rintro e w3 ⟨rfl, k3⟩; have K4 : Hid (Kpt w w3) := ktr K2.out k3; have KK3 : Hid (Kpt w1 w3) := ktr KK2.out k3;  have y0 : World.cell? w3 ⟨w1.heap.size, 0, none⟩ = some (.int .i64 T) := (Blk.kpt R2.out k3).cell 0; have y1 : World.cell? w3 ⟨w1.heap.size, 1, none⟩ = some (.slice a1 n1 c1) := (Blk.kpt R2.out k3).cell 1; have y2 : World.cell? w3 ⟨w1.heap.size, 2, none⟩ = some (.slice b1 b.length d1) := (Blk.kpt R2.out k3).cell 2; have KW3 : Hid (Kpt (((w.alloc (.cells #[.int .i64 T, .slice a n c, .slice ab b.length cb] 31)).alloc (.cells #[.int .i64 p0, .int .i64 p1, .int .i64 p2, .int .i64 p3, .int .i64 p4, .int .i64 p5, .int .i64 p6, .int .i64 p7, .int .i64 p8, .int .i64 p9] 42)).alloc (.cells #[.int .i64 q0, .int .i64 q1, .int .i64 q2, .int .i64 q3, .int .i64 q4, .int .i64 q5, .int .i64 q6, .int .i64 q7, .int .i64 q8, .int .i64 q9] 42)) w3) := ktr KW1.out KK3.out; have fe0 : World.cell? w3 ⟨w.heap.size + 2, 0, none⟩ = some (.int .i64 q0) := (B5.out.kpt KW3.out).cell 0; have fe1 : World.cell? w3 ⟨w.heap.size + 2, 1, none⟩ = some (.int .i64 q1) := (B5.out.kpt KW3.out).cell 1; have fe2 : World.cell? w3 ⟨w.heap.size + 2, 2, none⟩ = some (.int .i64 q2) := (B5.out.kpt KW3.out).cell 2; have fe3 : World.cell? w3 ⟨w.heap.size + 2, 3, none⟩ = some (.int .i64 q3) := (B5.out.kpt KW3.out).cell 3; have fe4 : World.cell? w3 ⟨w.heap.size + 2, 4, none⟩ = some (.int .i64 q4) := (B5.out.kpt KW3.out).cell 4; have fe5 : World.cell? w3 ⟨w.heap.size + 2, 5, none⟩ = some (.int .i64 q5) := (B5.out.kpt KW3.out).cell 5; have fe6 : World.cell? w3 ⟨w.heap.size + 2, 6, none⟩ = some (.int .i64 q6) := (B5.out.kpt KW3.out).cell 6; have fe7 : World.cell? w3 ⟨w.heap.size + 2, 7, none⟩ = some (.int .i64 q7) := (B5.out.kpt KW3.out).cell 7; have fe8 : World.cell? w3 ⟨w.heap.size + 2, 8, none⟩ = some (.int .i64 q8) := (B5.out.kpt KW3.out).cell 8; have fe9 : World.cell? w3 ⟨w.heap.size + 2, 9, none⟩ = some (.int .i64 q9) := (B5.out.kpt KW3.out).cell 9; have OF3 := Lib.hid (OwnsN.kpt OF1.out KK3.out); have RF3 : Hid (ReadsF w3 (.slice a1 n1 c1) (fs ++ [[p0, p1, p2, p3, p4, p5, p6, p7, p8, p9]])) := OwnsN.readsF OF3.out FB.out; have RN3 : Hid (NilC (.slice a1 n1 c1)) := row_nil OF3.out; have RP3 : Hid (ReadsP w3 (.slice b1 b.length d1) b) := OwnsP.reads (row_kpt OB1.out KK3.out) IB.out; clear k3)
    | (go_at_call 21; (with_reducible refine (A2 _ _ _ RF3.out RN3.out RP3.out).mono ?_); rintro e w4 ⟨fv4, bv4, rfl, of4, ob4, k4⟩; have K5 : Hid (Kpt w w4) := ktr K4.out k4; have KW4 : Hid (Kpt (((w.alloc (.cells #[.int .i64 T, .slice a n c, .slice ab b.length cb] 31)).alloc (.cells #[.int .i64 p0, .int .i64 p1, .int .i64 p2, .int .i64 p3, .int .i64 p4, .int .i64 p5, .int .i64 p6, .int .i64 p7, .int .i64 p8, .int .i64 p9] 42)).alloc (.cells #[.int .i64 q0, .int .i64 q1, .int .i64 q2, .int .i64 q3, .int .i64 q4, .int .i64 q5, .int .i64 q6, .int .i64 q7, .int .i64 q8, .int .i64 q9] 42)) w4) := ktr KW3.out k4; have OF4 := Lib.hid of4; have OB4 := Lib.hid ob4; obtain ⟨a4, c4, rfl⟩ := formN 0 of4 rfl; obtain ⟨b4, d4, rfl⟩ := formQ 0 ob4 rfl; have Z4 : Hid (Blk (w4.alloc (.cells #[.int .i64 0, .slice none 0 0, .slice none 0 0] 31)) w4.heap.size #[.int .i64 0, .slice none 0 0, .slice none 0 0] 31) := Blk.made _ _ _; have KZ4 : Hid (Kpt w (w4.alloc (.cells #[.int .i64 0, .slice none 0 0, .slice none 0 0] 31))) := K5.out.alloc _; clear of4 ob4 k4)
    | (refine wp_storeW rfl (.tmp 9) (.tmp 29) rfl w4.heap.size _ _ rfl rfl Z4.out rfl rfl (by simp [Value.oneCell']) ?_; intro w5 r5 k5 o5; have R5 := Lib.hid r5; have K6 : Hid (Kpt w w5) := k5 _ _ KZ4.out K5.out.size; have KK5 : Hid (Kpt w4 w5) := k5 _ _ ((Kpt.refl w4).alloc _) (Nat.le_refl _); have y0 : World.cell? w5 ⟨w4.heap.size, 0, none⟩ = some (.int .i64 0) := (Blk.kpt r5 (Kpt.refl _)).cell 0; have y1 : World.cell? w5 ⟨w4.heap.size, 1, none⟩ = some (.slice a4 0 c4) := (Blk.kpt r5 (Kpt.refl _)).cell 1; have y2 : World.cell? w5 ⟨w4.heap.size, 2, none⟩ = some (.slice b4 0 d4) := (Blk.kpt r5 (Kpt.refl _)).cell 2; have RP5 : Hid (ReadsP w5 (.slice b4 0 d4) []) := OwnsP.reads (ps := []) (row_kpt OB4.out KK5.out) inp_nil; clear r5 k5 o5)
    | (go_at_call 18; (with_reducible refine (sameW_any 0 _ _ _ _ [] [] _ (readsF_nil _ _ _) (readsF_nil _ _ _) RP5.out (readsP_nil _ none 0 (fun _ => rfl))).mono ?_); rintro e w6 ⟨rfl, k6⟩; have K7 : Hid (Kpt w w6) := ktr K6.out k6; clear k6))
  go_ret
  exact ⟨rfl, K7.out⟩

set_option maxRecDepth 100000 in
set_option maxHeartbeats 4000000 in
theorem cad_ok (T p0 p1 p2 p3 p4 p5 p6 p7 p8 p9 q0 q1 q2 q3 q4 q5 q6 q7 q8 q9 : Int) (a : Option Addr) (c : Nat) (ab : Option Addr) (cb : Nat) (fs : List (List Int)) (b : List (Int × Int × Int)) (w : World) (hq : (q0 != p0) = true) (hF : ReadsF w (.slice a fs.length c) fs) (hnil : NilC (.slice a fs.length c)) (hb : ReadsP w (.slice ab b.length cb) b) (FB2 : Hid (∀ l ∈ fs ++ [[p0, p1, p2, p3, p4, p5, p6, p7, p8, p9]] ++ [[q0, q1, q2, q3, q4, q5, q6, q7, q8, q9]], FlB l))
    (FB : Hid (∀ l ∈ fs ++ [[p0, p1, p2, p3, p4, p5, p6, p7, p8, p9]], FlB l)) (IB : Hid (InP b)) (HL : Hid (fs.length ≤ 1000))
    (A1 : ∀ w', Kpt w w' → Calls Tryz.prog 21 #[.agg #[.int .i64 T, .slice a fs.length c, .slice ab b.length cb], .agg #[.int .i64 p0, .int .i64 p1, .int .i64 p2, .int .i64 p3, .int .i64 p4, .int .i64 p5, .int .i64 p6, .int .i64 p7, .int .i64 p8, .int .i64 p9]] w' (WdRes w' 0 T (fs ++ [[p0, p1, p2, p3, p4, p5, p6, p7, p8, p9]]) b))
    (A2 : ∀ w' v1 b1, ReadsF w' v1 (fs ++ [[p0, p1, p2, p3, p4, p5, p6, p7, p8, p9]]) → NilC v1 → ReadsP w' b1 b → Calls Tryz.prog 21 #[.agg #[.int .i64 T, v1, b1], .agg #[.int .i64 q0, .int .i64 q1, .int .i64 q2, .int .i64 q3, .int .i64 q4, .int .i64 q5, .int .i64 q6, .int .i64 q7, .int .i64 q8, .int .i64 q9]] w' (WdRes w' 0 T (fs ++ [[p0, p1, p2, p3, p4, p5, p6, p7, p8, p9]] ++ [[q0, q1, q2, q3, q4, q5, q6, q7, q8, q9]]) b)) : Calls Tryz.prog 10 #[.agg #[.int .i64 T, .slice a fs.length c, .slice ab b.length cb], .agg #[.int .i64 p0, .int .i64 p1, .int .i64 p2, .int .i64 p3, .int .i64 p4, .int .i64 p5, .int .i64 p6, .int .i64 p7, .int .i64 p8, .int .i64 p9], .agg #[.int .i64 q0, .int .i64 q1, .int .i64 q2, .int .i64 q3, .int .i64 q4, .int .i64 q5, .int .i64 q6, .int .i64 q7, .int .i64 q8, .int .i64 q9]] w fun e w' => e = .returned (.bool true) ∧ Kpt w w' := by
  obtain ⟨n, hn'⟩ : ∃ n, n = fs.length := ⟨_, rfl⟩
  rw [← hn'] at A1 HL hF hnil ⊢
  have HN := Lib.hid hn'
  clear hn'
  have K3 : Hid (Kpt w (((w.alloc (.cells #[.int .i64 T, .slice a n c, .slice ab b.length cb] 31)).alloc (.cells #[.int .i64 p0, .int .i64 p1, .int .i64 p2, .int .i64 p3, .int .i64 p4, .int .i64 p5, .int .i64 p6, .int .i64 p7, .int .i64 p8, .int .i64 p9] 42)).alloc (.cells #[.int .i64 q0, .int .i64 q1, .int .i64 q2, .int .i64 q3, .int .i64 q4, .int .i64 q5, .int .i64 q6, .int .i64 q7, .int .i64 q8, .int .i64 q9] 42))) := (((Kpt.refl w).alloc _).alloc _).alloc _
  have B3 : Hid (Blk (((w.alloc (.cells #[.int .i64 T, .slice a n c, .slice ab b.length cb] 31)).alloc (.cells #[.int .i64 p0, .int .i64 p1, .int .i64 p2, .int .i64 p3, .int .i64 p4, .int .i64 p5, .int .i64 p6, .int .i64 p7, .int .i64 p8, .int .i64 p9] 42)).alloc (.cells #[.int .i64 q0, .int .i64 q1, .int .i64 q2, .int .i64 q3, .int .i64 q4, .int .i64 q5, .int .i64 q6, .int .i64 q7, .int .i64 q8, .int .i64 q9] 42)) w.heap.size #[.int .i64 T, .slice a n c, .slice ab b.length cb] 31) := ((Blk.made w _ _).alloc _).alloc _
  have B4 : Hid (Blk (((w.alloc (.cells #[.int .i64 T, .slice a n c, .slice ab b.length cb] 31)).alloc (.cells #[.int .i64 p0, .int .i64 p1, .int .i64 p2, .int .i64 p3, .int .i64 p4, .int .i64 p5, .int .i64 p6, .int .i64 p7, .int .i64 p8, .int .i64 p9] 42)).alloc (.cells #[.int .i64 q0, .int .i64 q1, .int .i64 q2, .int .i64 q3, .int .i64 q4, .int .i64 q5, .int .i64 q6, .int .i64 q7, .int .i64 q8, .int .i64 q9] 42)) (w.heap.size + 1) #[.int .i64 p0, .int .i64 p1, .int .i64 p2, .int .i64 p3, .int .i64 p4, .int .i64 p5, .int .i64 p6, .int .i64 p7, .int .i64 p8, .int .i64 p9] 42) := by
    have := Blk.made (w.alloc (.cells #[.int .i64 T, .slice a n c, .slice ab b.length cb] 31)) #[.int .i64 p0, .int .i64 p1, .int .i64 p2, .int .i64 p3, .int .i64 p4, .int .i64 p5, .int .i64 p6, .int .i64 p7, .int .i64 p8, .int .i64 p9] 42
    rw [World.size_alloc] at this
    exact this.alloc _
  have B5 : Hid (Blk (((w.alloc (.cells #[.int .i64 T, .slice a n c, .slice ab b.length cb] 31)).alloc (.cells #[.int .i64 p0, .int .i64 p1, .int .i64 p2, .int .i64 p3, .int .i64 p4, .int .i64 p5, .int .i64 p6, .int .i64 p7, .int .i64 p8, .int .i64 p9] 42)).alloc (.cells #[.int .i64 q0, .int .i64 q1, .int .i64 q2, .int .i64 q3, .int .i64 q4, .int .i64 q5, .int .i64 q6, .int .i64 q7, .int .i64 q8, .int .i64 q9] 42)) (w.heap.size + 2) #[.int .i64 q0, .int .i64 q1, .int .i64 q2, .int .i64 q3, .int .i64 q4, .int .i64 q5, .int .i64 q6, .int .i64 q7, .int .i64 q8, .int .i64 q9] 42) := by
    have := Blk.made ((w.alloc (.cells #[.int .i64 T, .slice a n c, .slice ab b.length cb] 31)).alloc (.cells #[.int .i64 p0, .int .i64 p1, .int .i64 p2, .int .i64 p3, .int .i64 p4, .int .i64 p5, .int .i64 p6, .int .i64 p7, .int .i64 p8, .int .i64 p9] 42)) #[.int .i64 q0, .int .i64 q1, .int .i64 q2, .int .i64 q3, .int .i64 q4, .int .i64 q5, .int .i64 q6, .int .i64 q7, .int .i64 q8, .int .i64 q9] 42
    rw [World.size_alloc, World.size_alloc] at this
    exact this
  go_enter Tryz.func10, Tryz.ntmps10
  have HF := Lib.hid hF
  have HNil := Lib.hid hnil
  have HB := Lib.hid hb
  clear hF hnil hb
  go_upto_region 9 with (first
    | (go_at_call 21; (with_reducible refine (A1 _ K3.out).mono ?_); rintro e w1 ⟨fv1, bv1, rfl, of1, ob1, k1⟩; have K1 : Hid (Kpt w w1) := ktr K3.out k1; have KW1 : Hid (Kpt (((w.alloc (.cells #[.int .i64 T, .slice a n c, .slice ab b.length cb] 31)).alloc (.cells #[.int .i64 p0, .int .i64 p1, .int .i64 p2, .int .i64 p3, .int .i64 p4, .int .i64 p5, .int .i64 p6, .int .i64 p7, .int .i64 p8, .int .i64 p9] 42)).alloc (.cells #[.int .i64 q0, .int .i64 q1, .int .i64 q2, .int .i64 q3, .int .i64 q4, .int .i64 q5, .int .i64 q6, .int .i64 q7, .int .i64 q8, .int .i64 q9] 42)) w1) := k1; have OF1 := Lib.hid of1; have OB1 := Lib.hid ob1; obtain ⟨a1, n1, c1, rfl, e1⟩ := OwnsN.form of1; have HN1 : Hid (n1 = n + 1) := Lib.hid (by have e2 : n1 = _ := e1; rw [e2, HN.out]; simp); obtain ⟨b1, d1, rfl⟩ := OwnsP.form ob1; clear e1; have Z1 : Hid (Blk (w1.alloc (.cells #[.int .i64 0, .slice none 0 0, .slice none 0 0] 31)) w1.heap.size #[.int .i64 0, .slice none 0 0, .slice none 0 0] 31) := Blk.made _ _ _; have KZ1 : Hid (Kpt w (w1.alloc (.cells #[.int .i64 0, .slice none 0 0, .slice none 0 0] 31))) := K1.out.alloc _; clear of1 ob1 k1)
    | (refine wp_storeW rfl (.tmp 7) (.tmp 16) rfl w1.heap.size _ _ rfl rfl Z1.out rfl rfl (by simp [Value.oneCell']) ?_; intro w2 r2 k2 o2; have R2 := Lib.hid r2; have K2 : Hid (Kpt w w2) := k2 _ _ KZ1.out K1.out.size; have KK2 : Hid (Kpt w1 w2) := k2 _ _ ((Kpt.refl w1).alloc _) (Nat.le_refl _); clear r2 k2 o2)
    | (go_at_call 13; (with_reducible refine (cycleBegun_run _).mono ?_); rintro e w3 ⟨rfl, k3⟩; have K4 : Hid (Kpt w w3) := ktr K2.out k3; have KK3 : Hid (Kpt w1 w3) := ktr KK2.out k3;  have y0 : World.cell? w3 ⟨w1.heap.size, 0, none⟩ = some (.int .i64 T) := (Blk.kpt R2.out k3).cell 0; have y1 : World.cell? w3 ⟨w1.heap.size, 1, none⟩ = some (.slice a1 n1 c1) := (Blk.kpt R2.out k3).cell 1; have y2 : World.cell? w3 ⟨w1.heap.size, 2, none⟩ = some (.slice b1 b.length d1) := (Blk.kpt R2.out k3).cell 2; have KW3 : Hid (Kpt (((w.alloc (.cells #[.int .i64 T, .slice a n c, .slice ab b.length cb] 31)).alloc (.cells #[.int .i64 p0, .int .i64 p1, .int .i64 p2, .int .i64 p3, .int .i64 p4, .int .i64 p5, .int .i64 p6, .int .i64 p7, .int .i64 p8, .int .i64 p9] 42)).alloc (.cells #[.int .i64 q0, .int .i64 q1, .int .i64 q2, .int .i64 q3, .int .i64 q4, .int .i64 q5, .int .i64 q6, .int .i64 q7, .int .i64 q8, .int .i64 q9] 42)) w3) := ktr KW1.out KK3.out; have fe0 : World.cell? w3 ⟨w.heap.size + 2, 0, none⟩ = some (.int .i64 q0) := (B5.out.kpt KW3.out).cell 0; have fe1 : World.cell? w3 ⟨w.heap.size + 2, 1, none⟩ = some (.int .i64 q1) := (B5.out.kpt KW3.out).cell 1; have fe2 : World.cell? w3 ⟨w.heap.size + 2, 2, none⟩ = some (.int .i64 q2) := (B5.out.kpt KW3.out).cell 2; have fe3 : World.cell? w3 ⟨w.heap.size + 2, 3, none⟩ = some (.int .i64 q3) := (B5.out.kpt KW3.out).cell 3; have fe4 : World.cell? w3 ⟨w.heap.size + 2, 4, none⟩ = some (.int .i64 q4) := (B5.out.kpt KW3.out).cell 4; have fe5 : World.cell? w3 ⟨w.heap.size + 2, 5, none⟩ = some (.int .i64 q5) := (B5.out.kpt KW3.out).cell 5; have fe6 : World.cell? w3 ⟨w.heap.size + 2, 6, none⟩ = some (.int .i64 q6) := (B5.out.kpt KW3.out).cell 6; have fe7 : World.cell? w3 ⟨w.heap.size + 2, 7, none⟩ = some (.int .i64 q7) := (B5.out.kpt KW3.out).cell 7; have fe8 : World.cell? w3 ⟨w.heap.size + 2, 8, none⟩ = some (.int .i64 q8) := (B5.out.kpt KW3.out).cell 8; have fe9 : World.cell? w3 ⟨w.heap.size + 2, 9, none⟩ = some (.int .i64 q9) := (B5.out.kpt KW3.out).cell 9; have OF3 := Lib.hid (OwnsN.kpt OF1.out KK3.out); have RF3 : Hid (ReadsF w3 (.slice a1 n1 c1) (fs ++ [[p0, p1, p2, p3, p4, p5, p6, p7, p8, p9]])) := OwnsN.readsF OF3.out FB.out; have RN3 : Hid (NilC (.slice a1 n1 c1)) := row_nil OF3.out; have RP3 : Hid (ReadsP w3 (.slice b1 b.length d1) b) := OwnsP.reads (row_kpt OB1.out KK3.out) IB.out; clear k3)
    | (go_at_call 21; (with_reducible refine (A2 _ _ _ RF3.out RN3.out RP3.out).mono ?_); rintro e w4 ⟨fv4, bv4, rfl, of4, ob4, k4⟩; have K5 : Hid (Kpt w w4) := ktr K4.out k4; have KW4 : Hid (Kpt (((w.alloc (.cells #[.int .i64 T, .slice a n c, .slice ab b.length cb] 31)).alloc (.cells #[.int .i64 p0, .int .i64 p1, .int .i64 p2, .int .i64 p3, .int .i64 p4, .int .i64 p5, .int .i64 p6, .int .i64 p7, .int .i64 p8, .int .i64 p9] 42)).alloc (.cells #[.int .i64 q0, .int .i64 q1, .int .i64 q2, .int .i64 q3, .int .i64 q4, .int .i64 q5, .int .i64 q6, .int .i64 q7, .int .i64 q8, .int .i64 q9] 42)) w4) := ktr KW3.out k4; have OF4 := Lib.hid of4; have OB4 := Lib.hid ob4; obtain ⟨a4, n4, c4, rfl, e4⟩ := OwnsN.form of4; have HN4 : Hid (n4 = n + 1 + 1) := Lib.hid (by have e2 : n4 = _ := e4; rw [e2, HN.out]; simp); obtain ⟨b4, d4, rfl⟩ := OwnsP.form ob4; clear e4; have Z4 : Hid (Blk (w4.alloc (.cells #[.int .i64 0, .slice none 0 0, .slice none 0 0] 31)) w4.heap.size #[.int .i64 0, .slice none 0 0, .slice none 0 0] 31) := Blk.made _ _ _; have KZ4 : Hid (Kpt w (w4.alloc (.cells #[.int .i64 0, .slice none 0 0, .slice none 0 0] 31))) := K5.out.alloc _; clear of4 ob4 k4)
    | (refine wp_storeW rfl (.tmp 9) (.tmp 29) rfl w4.heap.size _ _ rfl rfl Z4.out rfl rfl (by simp [Value.oneCell']) ?_; intro w5 r5 k5 o5; have R5 := Lib.hid r5; have K6 : Hid (Kpt w w5) := k5 _ _ KZ4.out K5.out.size; have KK5 : Hid (Kpt w4 w5) := k5 _ _ ((Kpt.refl w4).alloc _) (Nat.le_refl _); have x0 : World.cell? w5 ⟨w4.heap.size, 0, none⟩ = some (.int .i64 T) := (Blk.kpt r5 (Kpt.refl _)).cell 0; have x1 : World.cell? w5 ⟨w4.heap.size, 1, none⟩ = some (.slice a4 n4 c4) := (Blk.kpt r5 (Kpt.refl _)).cell 1; have x2 : World.cell? w5 ⟨w4.heap.size, 2, none⟩ = some (.slice b4 b.length d4) := (Blk.kpt r5 (Kpt.refl _)).cell 2; have KW5 : Hid (Kpt (((w.alloc (.cells #[.int .i64 T, .slice a n c, .slice ab b.length cb] 31)).alloc (.cells #[.int .i64 p0, .int .i64 p1, .int .i64 p2, .int .i64 p3, .int .i64 p4, .int .i64 p5, .int .i64 p6, .int .i64 p7, .int .i64 p8, .int .i64 p9] 42)).alloc (.cells #[.int .i64 q0, .int .i64 q1, .int .i64 q2, .int .i64 q3, .int .i64 q4, .int .i64 q5, .int .i64 q6, .int .i64 q7, .int .i64 q8, .int .i64 q9] 42)) w5) := ktr KW4.out KK5.out; have fc0 : World.cell? w5 ⟨w.heap.size, 0, none⟩ = some (.int .i64 T) := (B3.out.kpt KW5.out).cell 0; have fc1 : World.cell? w5 ⟨w.heap.size, 1, none⟩ = some (.slice a n c) := (B3.out.kpt KW5.out).cell 1; have fc2 : World.cell? w5 ⟨w.heap.size, 2, none⟩ = some (.slice ab b.length cb) := (B3.out.kpt KW5.out).cell 2; have fd0 : World.cell? w5 ⟨w.heap.size + 1, 0, none⟩ = some (.int .i64 p0) := (B4.out.kpt KW5.out).cell 0; have fd1 : World.cell? w5 ⟨w.heap.size + 1, 1, none⟩ = some (.int .i64 p1) := (B4.out.kpt KW5.out).cell 1; have fd2 : World.cell? w5 ⟨w.heap.size + 1, 2, none⟩ = some (.int .i64 p2) := (B4.out.kpt KW5.out).cell 2; have fd3 : World.cell? w5 ⟨w.heap.size + 1, 3, none⟩ = some (.int .i64 p3) := (B4.out.kpt KW5.out).cell 3; have fd4 : World.cell? w5 ⟨w.heap.size + 1, 4, none⟩ = some (.int .i64 p4) := (B4.out.kpt KW5.out).cell 4; have fd5 : World.cell? w5 ⟨w.heap.size + 1, 5, none⟩ = some (.int .i64 p5) := (B4.out.kpt KW5.out).cell 5; have fd6 : World.cell? w5 ⟨w.heap.size + 1, 6, none⟩ = some (.int .i64 p6) := (B4.out.kpt KW5.out).cell 6; have fd7 : World.cell? w5 ⟨w.heap.size + 1, 7, none⟩ = some (.int .i64 p7) := (B4.out.kpt KW5.out).cell 7; have fd8 : World.cell? w5 ⟨w.heap.size + 1, 8, none⟩ = some (.int .i64 p8) := (B4.out.kpt KW5.out).cell 8; have fd9 : World.cell? w5 ⟨w.heap.size + 1, 9, none⟩ = some (.int .i64 p9) := (B4.out.kpt KW5.out).cell 9; have fe0 : World.cell? w5 ⟨w.heap.size + 2, 0, none⟩ = some (.int .i64 q0) := (B5.out.kpt KW5.out).cell 0; have fe1 : World.cell? w5 ⟨w.heap.size + 2, 1, none⟩ = some (.int .i64 q1) := (B5.out.kpt KW5.out).cell 1; have fe2 : World.cell? w5 ⟨w.heap.size + 2, 2, none⟩ = some (.int .i64 q2) := (B5.out.kpt KW5.out).cell 2; have fe3 : World.cell? w5 ⟨w.heap.size + 2, 3, none⟩ = some (.int .i64 q3) := (B5.out.kpt KW5.out).cell 3; have fe4 : World.cell? w5 ⟨w.heap.size + 2, 4, none⟩ = some (.int .i64 q4) := (B5.out.kpt KW5.out).cell 4; have fe5 : World.cell? w5 ⟨w.heap.size + 2, 5, none⟩ = some (.int .i64 q5) := (B5.out.kpt KW5.out).cell 5; have fe6 : World.cell? w5 ⟨w.heap.size + 2, 6, none⟩ = some (.int .i64 q6) := (B5.out.kpt KW5.out).cell 6; have fe7 : World.cell? w5 ⟨w.heap.size + 2, 7, none⟩ = some (.int .i64 q7) := (B5.out.kpt KW5.out).cell 7; have fe8 : World.cell? w5 ⟨w.heap.size + 2, 8, none⟩ = some (.int .i64 q8) := (B5.out.kpt KW5.out).cell 8; have fe9 : World.cell? w5 ⟨w.heap.size + 2, 9, none⟩ = some (.int .i64 q9) := (B5.out.kpt KW5.out).cell 9; have OF5 := Lib.hid (OwnsN.kpt OF4.out KK5.out); have OB5 := Lib.hid (row_kpt OB4.out KK5.out); clear r5 k5 o5))
  have HX5 : Hid (OwnsN 10 42 w5 0 (.slice a4 n4 c4) (fs ++ [[p0, p1, p2, p3, p4, p5, p6, p7, p8, p9]] ++ [[q0, q1, q2, q3, q4, q5, q6, q7, q8, q9]])) := Joins.ownsRow_le OF5.out (Nat.zero_le _)
  go_cut [11] from 36 to 44 (fun v wc => ∃ g cap, v = .slice (some ⟨g, 0, none⟩) (n + 1 + 1) cap ∧ Hid (OwnsN 10 42 wc 0 (.slice (some ⟨g, 0, none⟩) (n + 1 + 1) cap) (fs ++ [[p0, p1, p2, p3, p4, p5, p6, p7, p8, p9]] ++ [[q0, q1, q2, q3, q4, q5, q6, q7, q8, q9]])) ∧ Hid (Kpt w5 wc))
  case first =>
    have SK : Hid (∀ w', Kpt w5 w' → World.cell? w' ⟨w.heap.size, 1, none⟩ = some (.slice a n c) ∧ World.cell? w' ⟨w.heap.size + 1, 0, none⟩ = some (.int .i64 p0) ∧ World.cell? w' ⟨w.heap.size + 1, 1, none⟩ = some (.int .i64 p1) ∧ World.cell? w' ⟨w.heap.size + 1, 2, none⟩ = some (.int .i64 p2) ∧ World.cell? w' ⟨w.heap.size + 1, 3, none⟩ = some (.int .i64 p3) ∧ World.cell? w' ⟨w.heap.size + 1, 4, none⟩ = some (.int .i64 p4) ∧ World.cell? w' ⟨w.heap.size + 1, 5, none⟩ = some (.int .i64 p5) ∧ World.cell? w' ⟨w.heap.size + 1, 6, none⟩ = some (.int .i64 p6) ∧ World.cell? w' ⟨w.heap.size + 1, 7, none⟩ = some (.int .i64 p7) ∧ World.cell? w' ⟨w.heap.size + 1, 8, none⟩ = some (.int .i64 p8) ∧ World.cell? w' ⟨w.heap.size + 1, 9, none⟩ = some (.int .i64 p9) ∧ World.cell? w' ⟨w.heap.size + 2, 0, none⟩ = some (.int .i64 q0) ∧ World.cell? w' ⟨w.heap.size + 2, 1, none⟩ = some (.int .i64 q1) ∧ World.cell? w' ⟨w.heap.size + 2, 2, none⟩ = some (.int .i64 q2) ∧ World.cell? w' ⟨w.heap.size + 2, 3, none⟩ = some (.int .i64 q3) ∧ World.cell? w' ⟨w.heap.size + 2, 4, none⟩ = some (.int .i64 q4) ∧ World.cell? w' ⟨w.heap.size + 2, 5, none⟩ = some (.int .i64 q5) ∧ World.cell? w' ⟨w.heap.size + 2, 6, none⟩ = some (.int .i64 q6) ∧ World.cell? w' ⟨w.heap.size + 2, 7, none⟩ = some (.int .i64 q7) ∧ World.cell? w' ⟨w.heap.size + 2, 8, none⟩ = some (.int .i64 q8) ∧ World.cell? w' ⟨w.heap.size + 2, 9, none⟩ = some (.int .i64 q9)) := fun w' k => by
      have k' := ktr KW5.out k
      exact ⟨(B3.out.kpt k').cell 1, (B4.out.kpt k').cell 0, (B4.out.kpt k').cell 1, (B4.out.kpt k').cell 2, (B4.out.kpt k').cell 3, (B4.out.kpt k').cell 4, (B4.out.kpt k').cell 5, (B4.out.kpt k').cell 6, (B4.out.kpt k').cell 7, (B4.out.kpt k').cell 8, (B4.out.kpt k').cell 9, (B5.out.kpt k').cell 0, (B5.out.kpt k').cell 1, (B5.out.kpt k').cell 2, (B5.out.kpt k').cell 3, (B5.out.kpt k').cell 4, (B5.out.kpt k').cell 5, (B5.out.kpt k').cell 6, (B5.out.kpt k').cell 7, (B5.out.kpt k').cell 8, (B5.out.kpt k').cell 9⟩
    have HFw : Hid (∀ w', Kpt w5 w' → ReadsF w' (.slice a n c) fs) := fun w' k => HF.out.kpt (ktr K6.out k)
    have FP : FlB [p0, p1, p2, p3, p4, p5, p6, p7, p8, p9] := FB.out _ (by simp)
    have FQ : FlB [q0, q1, q2, q3, q4, q5, q6, q7, q8, q9] := FB2.out _ (by simp)
    have oa : Hid (OwnsN 10 42 ((w5.alloc (.cells #[.int .i64 p0, .int .i64 p1, .int .i64 p2, .int .i64 p3, .int .i64 p4, .int .i64 p5, .int .i64 p6, .int .i64 p7, .int .i64 p8, .int .i64 p9, .int .i64 q0, .int .i64 q1, .int .i64 q2, .int .i64 q3, .int .i64 q4, .int .i64 q5, .int .i64 q6, .int .i64 q7, .int .i64 q8, .int .i64 q9] 42)).alloc (.cells #[] 42)).drew w5.heap.size (.slice (some ⟨w5.heap.size + 1, 0, none⟩) 0 0) []) := by
      have := OwnsN.empty 10 42 (w5.alloc (.cells #[.int .i64 p0, .int .i64 p1, .int .i64 p2, .int .i64 p3, .int .i64 p4, .int .i64 p5, .int .i64 p6, .int .i64 p7, .int .i64 p8, .int .i64 p9, .int .i64 q0, .int .i64 q1, .int .i64 q2, .int .i64 q3, .int .i64 q4, .int .i64 q5, .int .i64 q6, .int .i64 q7, .int .i64 q8, .int .i64 q9] 42)) w5.heap.size (by simp)
      rw [World.size_alloc] at this
      exact OwnsN.kpt this (show Kpt _ ((w5.alloc (.cells #[.int .i64 p0, .int .i64 p1, .int .i64 p2, .int .i64 p3, .int .i64 p4, .int .i64 p5, .int .i64 p6, .int .i64 p7, .int .i64 p8, .int .i64 p9, .int .i64 q0, .int .i64 q1, .int .i64 q2, .int .i64 q3, .int .i64 q4, .int .i64 q5, .int .i64 q6, .int .i64 q7, .int .i64 q8, .int .i64 q9] 42)).alloc (.cells #[] 42)).drew from Below.drew (Kpt.refl _))
    have ob : Hid (OwnsN 10 42 ((w5.alloc (.cells #[] 42)).alloc (.cells #[.int .i64 p0, .int .i64 p1, .int .i64 p2, .int .i64 p3, .int .i64 p4, .int .i64 p5, .int .i64 p6, .int .i64 p7, .int .i64 p8, .int .i64 p9, .int .i64 q0, .int .i64 q1, .int .i64 q2, .int .i64 q3, .int .i64 q4, .int .i64 q5, .int .i64 q6, .int .i64 q7, .int .i64 q8, .int .i64 q9] 42)).drew w5.heap.size (.slice (some ⟨w5.heap.size, 0, none⟩) 0 0) []) := OwnsN.kpt (OwnsN.empty 10 42 w5 w5.heap.size (Nat.le_refl _)) (show Kpt _ ((w5.alloc (.cells #[] 42)).alloc (.cells #[.int .i64 p0, .int .i64 p1, .int .i64 p2, .int .i64 p3, .int .i64 p4, .int .i64 p5, .int .i64 p6, .int .i64 p7, .int .i64 p8, .int .i64 p9, .int .i64 q0, .int .i64 q1, .int .i64 q2, .int .i64 q3, .int .i64 q4, .int .i64 q5, .int .i64 q6, .int .i64 q7, .int .i64 q8, .int .i64 q9] 42)).drew from Below.drew ((Kpt.refl _).alloc _))
    have oc : Hid (OwnsN 10 42 (w5.alloc (.cells #[] 42)).drew w5.heap.size (.slice (some ⟨w5.heap.size, 0, none⟩) 0 0) []) := OwnsN.kpt (OwnsN.empty 10 42 w5 w5.heap.size (Nat.le_refl _)) (show Kpt _ (w5.alloc (.cells #[] 42)).drew from Below.drew (Kpt.refl _))
    have ka : Hid (Kpt w5 ((w5.alloc (.cells #[.int .i64 p0, .int .i64 p1, .int .i64 p2, .int .i64 p3, .int .i64 p4, .int .i64 p5, .int .i64 p6, .int .i64 p7, .int .i64 p8, .int .i64 p9, .int .i64 q0, .int .i64 q1, .int .i64 q2, .int .i64 q3, .int .i64 q4, .int .i64 q5, .int .i64 q6, .int .i64 q7, .int .i64 q8, .int .i64 q9] 42)).alloc (.cells #[] 42)).drew) := Below.drew (((Kpt.refl w5).alloc _).alloc _)
    have kb : Hid (Kpt w5 ((w5.alloc (.cells #[] 42)).alloc (.cells #[.int .i64 p0, .int .i64 p1, .int .i64 p2, .int .i64 p3, .int .i64 p4, .int .i64 p5, .int .i64 p6, .int .i64 p7, .int .i64 p8, .int .i64 p9, .int .i64 q0, .int .i64 q1, .int .i64 q2, .int .i64 q3, .int .i64 q4, .int .i64 q5, .int .i64 q6, .int .i64 q7, .int .i64 q8, .int .i64 q9] 42)).drew) := Below.drew (((Kpt.refl w5).alloc _).alloc _)
    have kc : Hid (Kpt w5 (w5.alloc (.cells #[] 42)).drew) := Below.drew ((Kpt.refl w5).alloc _)
    have ba : Hid (Blk ((w5.alloc (.cells #[.int .i64 p0, .int .i64 p1, .int .i64 p2, .int .i64 p3, .int .i64 p4, .int .i64 p5, .int .i64 p6, .int .i64 p7, .int .i64 p8, .int .i64 p9, .int .i64 q0, .int .i64 q1, .int .i64 q2, .int .i64 q3, .int .i64 q4, .int .i64 q5, .int .i64 q6, .int .i64 q7, .int .i64 q8, .int .i64 q9] 42)).alloc (.cells #[] 42)).drew w5.heap.size #[.int .i64 p0, .int .i64 p1, .int .i64 p2, .int .i64 p3, .int .i64 p4, .int .i64 p5, .int .i64 p6, .int .i64 p7, .int .i64 p8, .int .i64 p9, .int .i64 q0, .int .i64 q1, .int .i64 q2, .int .i64 q3, .int .i64 q4, .int .i64 q5, .int .i64 q6, .int .i64 q7, .int .i64 q8, .int .i64 q9] 42) := ((Blk.made w5 #[.int .i64 p0, .int .i64 p1, .int .i64 p2, .int .i64 p3, .int .i64 p4, .int .i64 p5, .int .i64 p6, .int .i64 p7, .int .i64 p8, .int .i64 p9, .int .i64 q0, .int .i64 q1, .int .i64 q2, .int .i64 q3, .int .i64 q4, .int .i64 q5, .int .i64 q6, .int .i64 q7, .int .i64 q8, .int .i64 q9] 42).alloc _).drew
    have bb : Hid (Blk ((w5.alloc (.cells #[] 42)).alloc (.cells #[.int .i64 p0, .int .i64 p1, .int .i64 p2, .int .i64 p3, .int .i64 p4, .int .i64 p5, .int .i64 p6, .int .i64 p7, .int .i64 p8, .int .i64 p9, .int .i64 q0, .int .i64 q1, .int .i64 q2, .int .i64 q3, .int .i64 q4, .int .i64 q5, .int .i64 q6, .int .i64 q7, .int .i64 q8, .int .i64 q9] 42)).drew (w5.heap.size + 1) #[.int .i64 p0, .int .i64 p1, .int .i64 p2, .int .i64 p3, .int .i64 p4, .int .i64 p5, .int .i64 p6, .int .i64 p7, .int .i64 p8, .int .i64 p9, .int .i64 q0, .int .i64 q1, .int .i64 q2, .int .i64 q3, .int .i64 q4, .int .i64 q5, .int .i64 q6, .int .i64 q7, .int .i64 q8, .int .i64 q9] 42) := by
      have := Blk.made (w5.alloc (.cells #[] 42)) #[.int .i64 p0, .int .i64 p1, .int .i64 p2, .int .i64 p3, .int .i64 p4, .int .i64 p5, .int .i64 p6, .int .i64 p7, .int .i64 p8, .int .i64 p9, .int .i64 q0, .int .i64 q1, .int .i64 q2, .int .i64 q3, .int .i64 q4, .int .i64 q5, .int .i64 q6, .int .i64 q7, .int .i64 q8, .int .i64 q9] 42
      rw [World.size_alloc] at this
      exact this.drew
    have lenS : fs.length + 1 ≤ 100000 := by have h1 : _ ≤ 1000 := HL.out; have h2 : n = fs.length := HN.out; omega
    have lenR : ([] : List (List Int)).length + fs.length ≤ 100000 := by simp; omega
    have lenT : fs.length + [[p0, p1, p2, p3, p4, p5, p6, p7, p8, p9], [q0, q1, q2, q3, q4, q5, q6, q7, q8, q9]].length ≤ 100000 := by have h1 : _ ≤ 1000 := HL.out; have h2 : n = fs.length := HN.out; simp; omega
    have lenU : Hid (n + 1 + 1 = fs.length + [[p0, p1, p2, p3, p4, p5, p6, p7, p8, p9], [q0, q1, q2, q3, q4, q5, q6, q7, q8, q9]].length) := Lib.hid <| by have h2 : n = fs.length := HN.out; simp; omega
    go_region_held3 (fun w' => World.cell? w' ⟨w.heap.size, 1, none⟩ = some (.slice a n c) ∧ World.cell? w' ⟨w.heap.size + 1, 0, none⟩ = some (.int .i64 p0) ∧ World.cell? w' ⟨w.heap.size + 1, 1, none⟩ = some (.int .i64 p1) ∧ World.cell? w' ⟨w.heap.size + 1, 2, none⟩ = some (.int .i64 p2) ∧ World.cell? w' ⟨w.heap.size + 1, 3, none⟩ = some (.int .i64 p3) ∧ World.cell? w' ⟨w.heap.size + 1, 4, none⟩ = some (.int .i64 p4) ∧ World.cell? w' ⟨w.heap.size + 1, 5, none⟩ = some (.int .i64 p5) ∧ World.cell? w' ⟨w.heap.size + 1, 6, none⟩ = some (.int .i64 p6) ∧ World.cell? w' ⟨w.heap.size + 1, 7, none⟩ = some (.int .i64 p7) ∧ World.cell? w' ⟨w.heap.size + 1, 8, none⟩ = some (.int .i64 p8) ∧ World.cell? w' ⟨w.heap.size + 1, 9, none⟩ = some (.int .i64 p9) ∧ World.cell? w' ⟨w.heap.size + 2, 0, none⟩ = some (.int .i64 q0) ∧ World.cell? w' ⟨w.heap.size + 2, 1, none⟩ = some (.int .i64 q1) ∧ World.cell? w' ⟨w.heap.size + 2, 2, none⟩ = some (.int .i64 q2) ∧ World.cell? w' ⟨w.heap.size + 2, 3, none⟩ = some (.int .i64 q3) ∧ World.cell? w' ⟨w.heap.size + 2, 4, none⟩ = some (.int .i64 q4) ∧ World.cell? w' ⟨w.heap.size + 2, 5, none⟩ = some (.int .i64 q5) ∧ World.cell? w' ⟨w.heap.size + 2, 6, none⟩ = some (.int .i64 q6) ∧ World.cell? w' ⟨w.heap.size + 2, 7, none⟩ = some (.int .i64 q7) ∧ World.cell? w' ⟨w.heap.size + 2, 8, none⟩ = some (.int .i64 q8) ∧ World.cell? w' ⟨w.heap.size + 2, 9, none⟩ = some (.int .i64 q9))
      (first
        | go_keep
        | (exact SK.out _ KA2.out)
        | (exact SK.out _ KA1.out)
        | (exact SK.out _ ka.out)
        | (exact SK.out _ kb.out)
        | (exact SK.out _ kc.out)
        | fail)
      (first
      | (refine step_appendFs (by rfl) _ _ (by rfl) w5.heap.size (w5.heap.size + 1) 0 0 (.slice a n c) [] fs (by rfl) oa.out (by rfl) (HFw.out _ ka.out) HNil.out lenR (Below.size ka.out) n fs (by simp; exact HN.out) rfl ?_; rintro gg cap wa o1 g1 qe; have O1 := Lib.hid o1; have KA1 := Lib.hid (kp_grown ka.out (by omega) g1); have GE1 : Hid (w5.heap.size ≤ gg) := Lib.hid qe; have XB := Lib.hid (blk_grown2 ba.out (by omega) g1); clear o1 g1 qe)
      | (refine step_appendFs (by rfl) _ _ (by rfl) w5.heap.size w5.heap.size 0 0 (.slice a n c) [] fs (by rfl) ob.out (by rfl) (HFw.out _ kb.out) HNil.out lenR (Below.size kb.out) n fs (by simp; exact HN.out) rfl ?_; rintro gg cap wa o1 g1 qe; have O1 := Lib.hid o1; have KA1 := Lib.hid (kp_grown kb.out (by omega) g1); have GE1 : Hid (w5.heap.size ≤ gg) := Lib.hid qe; have XB := Lib.hid (blk_grown2 bb.out (by omega) g1); clear o1 g1 qe)
      | (refine step_appendFs (by rfl) _ _ (by rfl) w5.heap.size w5.heap.size 0 0 (.slice a n c) [] fs (by rfl) oc.out (by rfl) (HFw.out _ kc.out) HNil.out lenR (Below.size kc.out) n fs (by simp; exact HN.out) rfl ?_; rintro gg cap wa o1 g1 qe; have O1 := Lib.hid o1; have KA1 := Lib.hid (kp_grown kc.out (by omega) g1); have GE1 : Hid (w5.heap.size ≤ gg) := Lib.hid qe; have XC1 := Lib.hid (Blk.made wa #[.int .i64 p0, .int .i64 p1, .int .i64 p2, .int .i64 p3, .int .i64 p4, .int .i64 p5, .int .i64 p6, .int .i64 p7, .int .i64 p8, .int .i64 p9, .int .i64 q0, .int .i64 q1, .int .i64 q2, .int .i64 q3, .int .i64 q4, .int .i64 q5, .int .i64 q6, .int .i64 q7, .int .i64 q8, .int .i64 q9] 42); clear o1 g1 qe)
      | (refine step_appendFs (by rfl) _ _ (by rfl) 0 gg n cap _ fs [[p0, p1, p2, p3, p4, p5, p6, p7, p8, p9], [q0, q1, q2, q3, q4, q5, q6, q7, q8, q9]] (by rfl) (Joins.ownsRow_le O1.out (Nat.zero_le _)) (by rfl) (rf_two XB.out rfl FP FQ) rn_some lenT (Nat.zero_le _) (n + 1 + 1) (fs ++ [[p0, p1, p2, p3, p4, p5, p6, p7, p8, p9]] ++ [[q0, q1, q2, q3, q4, q5, q6, q7, q8, q9]]) lenU.out (by simp) ?_; rintro gg2 cap2 wz o2 g2 -; have O2 := Lib.hid o2; have KA2 := Lib.hid (kp_grown KA1.out GE1.out g2); clear o2 g2)
      | (refine step_appendFs (by rfl) _ _ (by rfl) 0 gg n cap _ fs [[p0, p1, p2, p3, p4, p5, p6, p7, p8, p9], [q0, q1, q2, q3, q4, q5, q6, q7, q8, q9]] (by rfl) (Joins.ownsRow_le (OwnsN.kpt O1.out ((Kpt.refl _).alloc _)) (Nat.zero_le _)) (by rfl) (rf_two XC1.out rfl FP FQ) rn_some lenT (Nat.zero_le _) (n + 1 + 1) (fs ++ [[p0, p1, p2, p3, p4, p5, p6, p7, p8, p9]] ++ [[q0, q1, q2, q3, q4, q5, q6, q7, q8, q9]]) lenU.out (by simp) ?_; rintro gg2 cap2 wz o2 g2 -; have O2 := Lib.hid o2; have KA2 := Lib.hid (kp_grown (KA1.out.alloc _) GE1.out g2); clear o2 g2)
      | fail)
    all_goals go_wp2
    all_goals go_meet
    all_goals (case rel => exact ⟨_, _, rfl, O2.out, KA2.out⟩)
  case rest =>
  obtain ⟨gz, cz, rfl, oz, kz⟩ := hcut
  have K7 : Hid (Kpt w wc) := ktr K6.out kz.out
  have KW7 : Hid (Kpt (((w.alloc (.cells #[.int .i64 T, .slice a n c, .slice ab b.length cb] 31)).alloc (.cells #[.int .i64 p0, .int .i64 p1, .int .i64 p2, .int .i64 p3, .int .i64 p4, .int .i64 p5, .int .i64 p6, .int .i64 p7, .int .i64 p8, .int .i64 p9] 42)).alloc (.cells #[.int .i64 q0, .int .i64 q1, .int .i64 q2, .int .i64 q3, .int .i64 q4, .int .i64 q5, .int .i64 q6, .int .i64 q7, .int .i64 q8, .int .i64 q9] 42)) wc) := ktr KW5.out kz.out
  have RZ : Hid (ReadsF wc (.slice (some ⟨gz, 0, none⟩) (n + 1 + 1) cz) (fs ++ [[p0, p1, p2, p3, p4, p5, p6, p7, p8, p9]] ++ [[q0, q1, q2, q3, q4, q5, q6, q7, q8, q9]])) := OwnsN.readsF oz.out FB2.out
  have RX : Hid (ReadsF wc (.slice a4 n4 c4) (fs ++ [[p0, p1, p2, p3, p4, p5, p6, p7, p8, p9]] ++ [[q0, q1, q2, q3, q4, q5, q6, q7, q8, q9]])) := OwnsN.readsF (OwnsN.kpt HX5.out kz.out) FB2.out
  have RB : Hid (ReadsP wc (.slice b4 b.length d4) b) := OwnsP.reads (row_kpt OB5.out kz.out) IB.out
  have RC : Hid (ReadsP wc (.slice ab b.length cb) b) := HB.out.kpt K7.out
  have SF := Lib.hid (sameF_any _ _ _ wc RX.out RZ.out)
  have SP := Lib.hid (fun w' (k : Kpt wc w') => sameP_any _ _ _ w' (RB.out.kpt k) (RC.out.kpt k))
  have BZ := Lib.hid (R5.out.kpt kz.out)
  have B37 := Lib.hid (B3.out.kpt KW7.out)
  have t0 : World.cell? wc ⟨w.heap.size + 1, 0, none⟩ = some (.int .i64 p0) := (B4.out.kpt KW7.out).cell 0
  have t1 : World.cell? wc ⟨w.heap.size + 2, 0, none⟩ = some (.int .i64 q0) := (B5.out.kpt KW7.out).cell 0
  have t2 : World.cell? wc ⟨w4.heap.size, 1, none⟩ = some (.slice a4 n4 c4) := BZ.out.cell 1
  have tt : (T == T) = true := beq_self_eq_true T
  clear A1 A2 oz RZ RX RB RC HX5 K1 KW1 OF1 OB1 Z1 KZ1 R2 K2 KK2 K4 KK3 KW3 OF3 RF3 RN3 RP3 K5 KW4 OF4 OB4 Z4 KZ4 R5 K6 KK5 x0 x1 x2 KW5 HF HNil HB
  clear fc0 fc1 fc2 fd0 fd1 fd2 fd3 fd4 fd5 fd6 fd7 fd8 fd9 fe0 fe1 fe2 fe3 fe4 fe5 fe6 fe7 fe8 fe9
  go_wp2_with (first
    | (go_at_call 26; (with_reducible refine SF.out.mono ?_); rintro z w8 ⟨rfl, k8⟩; have K8 : Hid (Kpt wc w8) := k8; have u2 : World.cell? w8 ⟨w4.heap.size, 2, none⟩ = some (.slice b4 b.length d4) := (BZ.out.kpt K8.out).cell 2; have u3 : World.cell? w8 ⟨w.heap.size, 2, none⟩ = some (.slice ab b.length cb) := (B37.out.kpt K8.out).cell 2; clear k8)
    | (go_at_call 19; (with_reducible refine (SP.out _ K8.out).mono ?_); rintro z w9 ⟨rfl, k9⟩; have K9 : Hid (Kpt wc w9) := ktr K8.out k9; have v0 : World.cell? w9 ⟨w4.heap.size, 0, none⟩ = some (.int .i64 T) := (BZ.out.kpt K9.out).cell 0; have v1 : World.cell? w9 ⟨w.heap.size, 0, none⟩ = some (.int .i64 T) := (B37.out.kpt K9.out).cell 0; clear k9)
    | fail)
  go_ret
  exact ⟨rfl, ktr K7.out K9.out⟩

theorem ck60 {fs : List (List Int)} (h : checksE fs = 0) : fs.length ≤ 60 := by
  unfold checksE at h
  split at h
  · cases h
  · omega
theorem flB_ten {p0 p1 p2 p3 p4 p5 p6 p7 p8 p9 : Int} (h : (-9223372036854775808 ≤ p0 ∧ p0 ≤ 9223372036854775807) ∧ (-9223372036854775808 ≤ p1 ∧ p1 ≤ 9223372036854775807) ∧ (-9223372036854775808 ≤ p2 ∧ p2 ≤ 9223372036854775807) ∧ (-9223372036854775808 ≤ p3 ∧ p3 ≤ 9223372036854775807) ∧ (-9223372036854775808 ≤ p4 ∧ p4 ≤ 9223372036854775807) ∧ (-9223372036854775808 ≤ p5 ∧ p5 ≤ 9223372036854775807) ∧ (-9223372036854775808 ≤ p6 ∧ p6 ≤ 9223372036854775807) ∧ (-9223372036854775808 ≤ p7 ∧ p7 ≤ 9223372036854775807) ∧ (-9223372036854775808 ≤ p8 ∧ p8 ≤ 9223372036854775807) ∧ (-9223372036854775808 ≤ p9 ∧ p9 ≤ 9223372036854775807)) : FlB [p0, p1, p2, p3, p4, p5, p6, p7, p8, p9] := by
  obtain ⟨h0, h1, h2, h3, h4, h5, h6, h7, h8, h9⟩ := h
  intro j hj
  rcases (show j = 0 ∨ j = 1 ∨ j = 2 ∨ j = 3 ∨ j = 4 ∨ j = 5 ∨ j = 6 ∨ j = 7 ∨ j = 8 ∨ j = 9 by omega) with rfl | rfl | rfl | rfl | rfl | rfl | rfl | rfl | rfl | rfl
  · exact h0
  · exact h1
  · exact h2
  · exact h3
  · exact h4
  · exact h5
  · exact h6
  · exact h7
  · exact h8
  · exact h9
theorem ad_0 {T : Int} {fs : List (List Int)} {b : List (Int × Int × Int)} {l : List Int} (h : adE T fs b l = 0) : wldE T fs b = 0 ∧ checksE (fs ++ [l]) = 0 := by
  obtain ⟨h1, h2⟩ := orE_0 h
  refine ⟨h1, ?_⟩
  split at h2
  · cases h2
  · exact h2
theorem checks_two {fs : List (List Int)} {k l : List Int} (h : checksE (fs ++ [k] ++ [l]) = 0) : l.getD 0 0 ≠ k.getD 0 0 := by
  unfold checksE at h
  split at h
  · cases h
  · obtain ⟨-, h2, -⟩ := ids_ok.1 h
    unfold idsOf at h2
    rw [List.map_append, List.map_append, List.append_assoc] at h2
    have h3 := (List.nodup_append.1 h2).2.1
    intro e
    simp at h3
    exact h3 (by simpa using e.symm)
theorem cadds_plain (T p0 p1 p2 p3 p4 p5 p6 p7 p8 p9 q0 q1 q2 q3 q4 q5 q6 q7 q8 q9 : Int) (fv bv : Value) (fs : List (List Int)) (b : List (Int × Int × Int)) (w : World) (hF : ReadsF w fv fs) (hn : NilC fv) (hb : ReadsP w bv b) (hT : -9223372036854775808 ≤ T ∧ T ≤ 9223372036854775807) (hp : (-9223372036854775808 ≤ p0 ∧ p0 ≤ 9223372036854775807) ∧ (-9223372036854775808 ≤ p1 ∧ p1 ≤ 9223372036854775807) ∧ (-9223372036854775808 ≤ p2 ∧ p2 ≤ 9223372036854775807) ∧ (-9223372036854775808 ≤ p3 ∧ p3 ≤ 9223372036854775807) ∧ (-9223372036854775808 ≤ p4 ∧ p4 ≤ 9223372036854775807) ∧ (-9223372036854775808 ≤ p5 ∧ p5 ≤ 9223372036854775807) ∧ (-9223372036854775808 ≤ p6 ∧ p6 ≤ 9223372036854775807) ∧ (-9223372036854775808 ≤ p7 ∧ p7 ≤ 9223372036854775807) ∧ (-9223372036854775808 ≤ p8 ∧ p8 ≤ 9223372036854775807) ∧ (-9223372036854775808 ≤ p9 ∧ p9 ≤ 9223372036854775807)) (hq : (-9223372036854775808 ≤ q0 ∧ q0 ≤ 9223372036854775807) ∧ (-9223372036854775808 ≤ q1 ∧ q1 ≤ 9223372036854775807) ∧ (-9223372036854775808 ≤ q2 ∧ q2 ≤ 9223372036854775807) ∧ (-9223372036854775808 ≤ q3 ∧ q3 ≤ 9223372036854775807) ∧ (-9223372036854775808 ≤ q4 ∧ q4 ≤ 9223372036854775807) ∧ (-9223372036854775808 ≤ q5 ∧ q5 ≤ 9223372036854775807) ∧ (-9223372036854775808 ≤ q6 ∧ q6 ≤ 9223372036854775807) ∧ (-9223372036854775808 ≤ q7 ∧ q7 ≤ 9223372036854775807) ∧ (-9223372036854775808 ≤ q8 ∧ q8 ≤ 9223372036854775807) ∧ (-9223372036854775808 ≤ q9 ∧ q9 ≤ 9223372036854775807)) :
    Calls Tryz.prog 10 #[.agg #[.int .i64 T, fv, bv], .agg #[.int .i64 p0, .int .i64 p1, .int .i64 p2, .int .i64 p3, .int .i64 p4, .int .i64 p5, .int .i64 p6, .int .i64 p7, .int .i64 p8, .int .i64 p9], .agg #[.int .i64 q0, .int .i64 q1, .int .i64 q2, .int .i64 q3, .int .i64 q4, .int .i64 q5, .int .i64 q6, .int .i64 q7, .int .i64 q8, .int .i64 q9]] w fun e w' => e = .returned (.bool true) ∧ Kpt w w' := by
  have fp := flB_ten hp
  have fq := flB_ten hq
  have hin : InP b := by obtain ⟨_, _, _, _, _, h, _⟩ := hb; exact h
  have hfl : ∀ l ∈ fs, FlB l := by obtain ⟨_, _, _, _, h, _⟩ := hF; exact h
  have A1 := fun w' (k : Kpt w w') => add_any T p0 p1 p2 p3 p4 p5 p6 p7 p8 p9 fv bv fs b w' (hF.kpt k) hn (hb.kpt k) fp
  obtain ⟨a, c, rfl, -⟩ := _root_.id hF
  obtain ⟨ab, cb, rfl, -⟩ := _root_.id hb
  by_cases h1 : adE T fs b [p0, p1, p2, p3, p4, p5, p6, p7, p8, p9] = 0
  · obtain ⟨hw, hc⟩ := ad_0 h1
    have l60 := ck60 hc
    rw [List.length_append] at l60
    have e1 : adT T fs b [p0, p1, p2, p3, p4, p5, p6, p7, p8, p9] = T := if_pos h1
    have e2 : adF T fs b [p0, p1, p2, p3, p4, p5, p6, p7, p8, p9] = fs ++ [[p0, p1, p2, p3, p4, p5, p6, p7, p8, p9]] := if_pos h1
    have e3 : adB T fs b [p0, p1, p2, p3, p4, p5, p6, p7, p8, p9] = b := if_pos h1
    rw [h1, e1, e2, e3] at A1
    have FB : ∀ l ∈ fs ++ [[p0, p1, p2, p3, p4, p5, p6, p7, p8, p9]], FlB l := fun l hl => by
      rcases List.mem_append.1 hl with h | h
      · exact hfl l h
      · rw [List.mem_singleton.1 h]; exact fp
    have A2 := fun w' v1 b1 (r1 : ReadsF w' v1 (fs ++ [[p0, p1, p2, p3, p4, p5, p6, p7, p8, p9]])) (r2 : NilC v1) (r3 : ReadsP w' b1 b) => add_any T q0 q1 q2 q3 q4 q5 q6 q7 q8 q9 v1 b1 (fs ++ [[p0, p1, p2, p3, p4, p5, p6, p7, p8, p9]]) b w' r1 r2 r3 fq
    by_cases h2 : adE T (fs ++ [[p0, p1, p2, p3, p4, p5, p6, p7, p8, p9]]) b [q0, q1, q2, q3, q4, q5, q6, q7, q8, q9] = 0
    · obtain ⟨-, hc2⟩ := ad_0 h2
      have e1 : adT T (fs ++ [[p0, p1, p2, p3, p4, p5, p6, p7, p8, p9]]) b [q0, q1, q2, q3, q4, q5, q6, q7, q8, q9] = T := if_pos h2
      have e2 : adF T (fs ++ [[p0, p1, p2, p3, p4, p5, p6, p7, p8, p9]]) b [q0, q1, q2, q3, q4, q5, q6, q7, q8, q9] = fs ++ [[p0, p1, p2, p3, p4, p5, p6, p7, p8, p9]] ++ [[q0, q1, q2, q3, q4, q5, q6, q7, q8, q9]] := if_pos h2
      have e3 : adB T (fs ++ [[p0, p1, p2, p3, p4, p5, p6, p7, p8, p9]]) b [q0, q1, q2, q3, q4, q5, q6, q7, q8, q9] = b := if_pos h2
      rw [h2, e1, e2, e3] at A2
      refine cad_ok T p0 p1 p2 p3 p4 p5 p6 p7 p8 p9 q0 q1 q2 q3 q4 q5 q6 q7 q8 q9 a c ab cb fs b w (bne_iff_ne.2 (checks_two hc2)) hF hn hb (fun l hl => ?_) FB hin (by unfold Hid; omega) A1 A2
      rcases List.mem_append.1 hl with h | h
      · exact FB l h
      · rw [List.mem_singleton.1 h]; exact fq
    · have e1 : adT T (fs ++ [[p0, p1, p2, p3, p4, p5, p6, p7, p8, p9]]) b [q0, q1, q2, q3, q4, q5, q6, q7, q8, q9] = 0 := if_neg h2
      have e2 : adF T (fs ++ [[p0, p1, p2, p3, p4, p5, p6, p7, p8, p9]]) b [q0, q1, q2, q3, q4, q5, q6, q7, q8, q9] = [] := if_neg h2
      have e3 : adB T (fs ++ [[p0, p1, p2, p3, p4, p5, p6, p7, p8, p9]]) b [q0, q1, q2, q3, q4, q5, q6, q7, q8, q9] = [] := if_neg h2
      rw [e1, e2, e3] at A2
      exact cad_no2 T p0 p1 p2 p3 p4 p5 p6 p7 p8 p9 q0 q1 q2 q3 q4 q5 q6 q7 q8 q9 a c ab cb fs b w _ (bne_iff_ne.2 h2) FB hin (by unfold Hid; omega) A1 A2
  · have e1 : adT T fs b [p0, p1, p2, p3, p4, p5, p6, p7, p8, p9] = 0 := if_neg h1
    have e2 : adF T fs b [p0, p1, p2, p3, p4, p5, p6, p7, p8, p9] = [] := if_neg h1
    have e3 : adB T fs b [p0, p1, p2, p3, p4, p5, p6, p7, p8, p9] = [] := if_neg h1
    rw [e1, e2, e3] at A1
    exact cad_no T p0 p1 p2 p3 p4 p5 p6 p7 p8 p9 q0 q1 q2 q3 q4 q5 q6 q7 q8 q9 a c ab cb fs b w _ (bne_iff_ne.2 h1) A1

end Go.Proofs.YthaahebggboliaaGreat
