/-
  Merged: RepD, RepE.
-/
import Derived.Test.YtagmgpdgiphhbaaM8
-- RepD
namespace Go.Proofs.Ytagmgpdgiphhbaa
open Go.RowKit Go.Shelf
set_option linter.unusedVariables false
attribute [local go_sem] Oper.semAt_some

/-- how many edges an age has reached; whether it counts -/
def ageK (W : Int) (hs : List Int) (q : Int) (es l : List Int) : Nat := es.countP (· < couR W hs (l.getD 5 0) q + 1)
def ageV (q : Int) (l : List Int) : Int := if l.getD 5 0 < q then 1 else 0
/-- the counts of the first ones -/
def ageT (W : Int) (hs : List Int) (q : Int) (es : List Int) (fs : List (List Int)) (xs : List (Fin fs.length)) : List Int := tal (fun x : Fin fs.length => ageK W hs q es (fs.getD x.1 [])) (fun x => ageV q (fs.getD x.1 [])) (es.length + 1) xs
theorem orE_0' {a b : Int} (h : orE a b = 0) : a = 0 ∧ b = 0 := orE_0 h
theorem ageQ_0 {W : Int} {hs : List Int} {fs : List (List Int)} {q : Int} {es : List Int} (h : ageQ W hs fs q es = 0) : calE W hs = 0 ∧ checksE fs = 0 ∧ (0 ≤ q ∧ q ≤ 3652058) ∧ edgE es = 0 := by
  obtain ⟨h1, h2⟩ := orE_0 h
  obtain ⟨h3, h4⟩ := orE_0 h2
  obtain ⟨h5, h6⟩ := orE_0 h4
  refine ⟨h1, h3, ?_, h6⟩
  unfold tdE at h5
  split at h5
  · assumption
  · cases h5
theorem edgL_0 {b : Int} {es : List Int} (h : edgL b es = 0) : es.Pairwise (· < ·) ∧ ∀ e ∈ es, b < e ∧ 1 ≤ e ∧ e ≤ 3652058 := by
  induction es generalizing b with
  | nil => exact ⟨.nil, by simp⟩
  | cons e es ih =>
    unfold edgL at h
    split at h
    · cases h
    · split at h
      · cases h
      · obtain ⟨h1, h2⟩ := ih h
        refine ⟨List.pairwise_cons.2 ⟨fun x hx => (h2 x hx).1, h1⟩, fun x hx => ?_⟩
        rcases List.mem_cons.1 hx with rfl | hx
        · omega
        · have := h2 x hx; omega
theorem edgE_0 {es : List Int} (h : edgE es = 0) : es.length ≤ 40 ∧ es.Pairwise (· < ·) ∧ ∀ e ∈ es, 1 ≤ e ∧ e ≤ 3652058 := by
  unfold edgE at h
  split at h
  · cases h
  · obtain ⟨h1, h2⟩ := edgL_0 h
    exact ⟨by omega, h1, fun e he => (h2 e he).2⟩

set_option maxRecDepth 100000 in
set_option maxHeartbeats 4000000 in
theorem ages_bad (W q : Int) (v fv ev : Value) (hs es : List Int) (fs : List (List Int)) (w : World) (hr : Reads w v hs) (hf : Fits hs) (hF : ReadsF w fv fs) (hE : Reads w ev es) (h : ageQ W hs fs q es ≠ 0) :
    Calls Try.prog 4 #[calV W v, fv, .int .i64 q, ev] w fun e w' => e = .returned (.tuple #[.slice none 0 0, .int .i64 (ageQ W hs fs q es)]) ∧ Kpt w w' := by
  have CA := Lib.hid (fun w' (k : Kpt w w') => checkAges_run W q v fv ev hs es fs w' (hr.kpt k) hf (hF.kpt k) (hE.kpt k))
  obtain ⟨a, cap, rfl, -⟩ := hr
  obtain ⟨a2, cap2, rfl, -⟩ := hF
  obtain ⟨a3, cap3, rfl, -⟩ := hE
  unfold calV at *
  have KA : Hid (Kpt w (((w.alloc (.cells #[.int .i64 W, .slice a hs.length cap] 24)).alloc (.cells #[.int .i64 q] 3)).alloc (.cells #[.slice a3 es.length cap3] 22))) := (((Kpt.refl w).alloc _).alloc _).alloc _
  have z : (ageQ W hs fs q es != 0) = true := bne_iff_ne.2 h
  clear h
  generalize ageQ W hs fs q es = E at *
  generalize hs.length = n1 at *
  generalize es.length = n2 at *
  generalize fs.length = n3 at *
  go_enter Try.func4, Try.ntmps4
  go_wp2_with (go_at_call 17; (with_reducible refine (CA.out _ KA.out).mono ?_); rintro e w1 ⟨rfl, k1⟩; have K1 := Lib.hid (ktr KA.out k1); clear k1)
  go_ret2
  exact ⟨rfl, K1.out⟩

/-- what a step of a round keeps -/
def Kpt' (n0 : Nat) (W W' : World) : Prop := KeepsOthers W W' ∧ Below n0 W W'

set_option maxRecDepth 100000 in
set_option maxHeartbeats 4000000 in
theorem ages_ok (W q : Int) (a a2 a3 : Option Addr) (cap cap2 cap3 : Nat) (hs es : List Int) (fs : List (List Int)) (w : World) (hr : Reads w (.slice a hs.length cap) hs) (hf : Fits hs) (hF : ReadsF w (.slice a2 fs.length cap2) fs) (hE : Reads w (.slice a3 es.length cap3) es) (h : ageQ W hs fs q es = 0) :
    Calls Try.prog 4 #[calV W (.slice a hs.length cap), .slice a2 fs.length cap2, .int .i64 q, .slice a3 es.length cap3] w fun e w' => (∃ g, w.heap.size ≤ g ∧ e = .returned (.tuple #[.slice (some ⟨g, 0, none⟩) (es.length + 1) (es.length + 1), .int .i64 0]) ∧ IB w' g (ageT W hs q es fs (opn fs fs.length))) ∧ Kpt w w' := by
  have CA := Lib.hid (fun w' (k : Kpt w w') => checkAges_run W q _ _ _ hs es fs w' (hr.kpt k) hf (hF.kpt k) (hE.kpt k))
  rw [h] at CA
  obtain ⟨hc1, hc2, hc3, hc4⟩ := ageQ_0 h
  obtain ⟨h60, hfl⟩ := checksE_0 hc2
  obtain ⟨h40, hso, hbd⟩ := edgE_0 hc4
  have CO := Lib.hid (fun f w' (k : Kpt w w') => count_any W f q _ hs w' (hr.kpt k) hf)
  have BS := Lib.hid (fun n w' (k : Kpt w w') => search_is _ es n w' (hE.kpt k) (by omega) (hso.imp fun h => Int.le_of_lt h))
  have HR := Lib.hid hF
  obtain ⟨a', cap', e, hm, -, hcl⟩ := hF
  injection e with e1 _ e3
  subst e1 e3
  have HC := Lib.hid hcl
  have HFL := Lib.hid hfl
  unfold maxLen at hm
  unfold calV at *
  clear hcl h hso hbd hfl hr hE
  have KA : Hid (Kpt w (((w.alloc (.cells #[.int .i64 W, .slice a hs.length cap] 24)).alloc (.cells #[.int .i64 q] 3)).alloc (.cells #[.slice a3 es.length cap3] 22))) := (((Kpt.refl w).alloc _).alloc _).alloc _
  have BC : Hid (Blk (((w.alloc (.cells #[.int .i64 W, .slice a hs.length cap] 24)).alloc (.cells #[.int .i64 q] 3)).alloc (.cells #[.slice a3 es.length cap3] 22)) w.heap.size #[.int .i64 W, .slice a hs.length cap] 24) := ((Blk.made w _ _).alloc _).alloc _
  have BQ : Hid (Blk (((w.alloc (.cells #[.int .i64 W, .slice a hs.length cap] 24)).alloc (.cells #[.int .i64 q] 3)).alloc (.cells #[.slice a3 es.length cap3] 22)) (w.heap.size + 1) #[.int .i64 q] 3) := by
    have := Blk.made (w.alloc (.cells #[.int .i64 W, .slice a hs.length cap] 24)) #[.int .i64 q] 3
    rw [World.size_alloc] at this
    exact this.alloc _
  have BE : Hid (Blk (((w.alloc (.cells #[.int .i64 W, .slice a hs.length cap] 24)).alloc (.cells #[.int .i64 q] 3)).alloc (.cells #[.slice a3 es.length cap3] 22)) (w.heap.size + 2) #[.slice a3 es.length cap3] 22) := by
    have := Blk.made ((w.alloc (.cells #[.int .i64 W, .slice a hs.length cap] 24)).alloc (.cells #[.int .i64 q] 3)) #[.slice a3 es.length cap3] 22
    rwa [World.size_alloc, World.size_alloc] at this
  have MK : ∀ w, (Instr.makeSlice 22 (.int .i64 ((es.length : Int) + 1)) (.int .i64 ((es.length : Int) + 1))).run Try.prog w = .ok (.slice (some ⟨w.heap.size, 0, none⟩) (es.length + 1) (es.length + 1)) (w.alloc (.cells (Array.replicate (es.length + 1) (Value.int .i64 0)) 3)) := fun w => by
    have := run_zeros w (es.length + 1) (by omega)
    simpa using this
  have m1 : IntKind.i64.wrap ((es.length : Int) + 1) = (es.length : Int) + 1 := IntWalk.i64_in _ (by omega)
  refine (callsIn_wide (n := 3)).1 ?_
  refine callsIn_of_wp_marks Try.func4 rfl trivial ?_ rfl
  simp only [Try.ntmps4, List.size_toArray, List.length_cons, List.length_nil, Nat.reduceAdd, Nat.reduceSub, Array.replicate_succ, Array.replicate_zero, List.push_toArray, List.append_toArray, List.nil_append, List.cons_append]
  gi_wp2_with (first
    | (refine ⟨trivial, ?_⟩; gi_at_call 17; (with_reducible refine (callsIn_wide.2 (CA.out _ KA.out)).mono ?_); rintro e w1 ⟨rfl, k1⟩; have K1 := Lib.hid (ktr KA.out k1); have B1 := Lib.hid (BC.out.kpt k1); have B2 := Lib.hid (BQ.out.kpt k1); have B3 := Lib.hid (BE.out.kpt k1); have b7 : World.cell? w1 ⟨w.heap.size + 2, 0, none⟩ = some (.slice a3 es.length cap3) := B3.out.cell 0; have s1 : w.heap.size + 3 ≤ w1.heap.size := (by have := Below.size k1; simp at this; omega); clear k1)
    | (refine ⟨trivial, ?_⟩; gi_at_call 18; (with_reducible refine (callsIn_wide.2 (open_it _ _ _ _)).mono ?_); rintro e w' ⟨rfl, rfl⟩))
  obtain ⟨w3, hw3⟩ : ∃ w3, (((w1.alloc (.cells (Array.replicate (es.length + 1) (Value.int .i64 0)) 3)).alloc (.cells #[.slice (some ⟨w1.heap.size, 0, none⟩) (es.length + 1) (es.length + 1)] 22)).alloc (.cells #[.slice a2 fs.length cap2] 25)) = w3 := ⟨_, rfl⟩
  have k13 : Kpt w1 w3 := by rw [← hw3]; exact (((Kpt.refl w1).alloc _).alloc _).alloc _
  have sz : w3.heap.size = w1.heap.size + 3 := by rw [← hw3]; simp
  have k3 : Below w.heap.size w w3 := ktr K1.out k13
  have bM : IB w3 w1.heap.size (List.replicate (es.length + 1) 0) := by rw [← hw3]; exact ((IB.zeros w1 (es.length + 1)).alloc _).alloc _
  have bX : Blk w3 (w1.heap.size + 1) #[.slice (some ⟨w1.heap.size, 0, none⟩) (es.length + 1) (es.length + 1)] 22 := by
    rw [← hw3]
    have := Blk.made (w1.alloc (.cells (Array.replicate (es.length + 1) (Value.int .i64 0)) 3)) #[.slice (some ⟨w1.heap.size, 0, none⟩) (es.length + 1) (es.length + 1)] 22
    rw [World.size_alloc] at this
    exact this.alloc _
  have bF : Blk w3 (w1.heap.size + 2) #[.slice a2 fs.length cap2] 25 := by
    rw [← hw3]
    have := Blk.made ((w1.alloc (.cells (Array.replicate (es.length + 1) (Value.int .i64 0)) 3)).alloc (.cells #[.slice (some ⟨w1.heap.size, 0, none⟩) (es.length + 1) (es.length + 1)] 22)) #[.slice a2 fs.length cap2] 25
    rwa [World.size_alloc, World.size_alloc] at this
  have ST := open_stops 2 (by omega) w.heap.size w w3 rfl _ fs (w1.heap.size + 2) HR.out k3 (bF.cell 0)
  have S3 : AS w.heap.size w1.heap.size #[.int .i64 W, .slice a hs.length cap] q (.slice a3 es.length cap3) (.slice (some ⟨w1.heap.size, 0, none⟩) (es.length + 1) (es.length + 1)) (List.replicate (es.length + 1) 0) w3 := ⟨B1.out.kpt k13, B2.out.kpt k13, B3.out.kpt k13, bX, bM⟩
  rw [hw3]
  clear hw3 KA BC BQ BE B1 B2 B3 b7 K1 k13 bM bX bF
  refine wpIn_rangeFunc_ownH rfl (by omega) (gf := 42) (lb := #[.pointer (some ⟨w1.heap.size + 2, 0, none⟩)]) rfl trivial (enters_of Try.func42 (by kernel_rfl) rfl)
    ST (fun h k => h.trans k) (fun W l o o' hl h h1 h2 => belowK_b (w := w) (n₀ := w.heap.size) (Nat.le_refl _) W l o o' (by omega) h h1 h2) (Below.refl _ _) (fun _ => rfl)
    (fun pre W' => AS w.heap.size w1.heap.size #[.int .i64 W, .slice a hs.length cap] q (.slice a3 es.length cap3) (.slice (some ⟨w1.heap.size, 0, none⟩) (es.length + 1) (es.length + 1)) (ageT W hs q es fs pre) W' ∧ Below w.heap.size w W') (fun _ _ _ => False)
    (OwnFrom.and (Own.from (fun s A B row hs hg hr => hs.own hg hr) _) (ownFrom_below (Nat.le_refl _) (by omega)))
    (fun _ _ _ _ _ hs _ _ => hs)
    ⟨by unfold ageT; rw [tal_nil]; exact S3, k3⟩
    (fun x a' W' => ∃ g, w1.heap.size + 1 < g ∧ a' = { tmps := #[.agg #[.int .i64 W, .slice a hs.length cap], .slice a2 fs.length cap2, .int .i64 q, .slice a3 es.length cap3, .pointer (some ⟨w.heap.size, 0, none⟩), undef, .pointer (some ⟨w.heap.size + 1, 0, none⟩), .pointer (some ⟨w.heap.size + 1 + 1, 0, none⟩), .slice none 0 0, .int .i64 0, .int .i64 0, .pointer (some ⟨w1.heap.size + 1, 0, none⟩), .pointer (some ⟨g, 0, none⟩), undef, undef, undef, undef, .agg #[.int .i64 W, .slice a hs.length cap], .slice a2 fs.length cap2, .int .i64 q, .slice a3 es.length cap3, .int .i64 0, .int .i64 0, .bool false, undef, .slice a3 es.length cap3, .int .i64 (es.length : Int), .int .i64 ((es.length : Int) + 1), .slice (some ⟨w1.heap.size, 0, none⟩) (es.length + 1) (es.length + 1), .slice a2 fs.length cap2, .func (.func 42) #[] #[.pointer (some ⟨w1.heap.size + 1 + 1, 0, none⟩)], .agg (flC (fs.getD x.1 [])), .int .i64 (openL (fs.getD x.1 [])), undef, undef, undef, undef, undef, undef, undef, undef, undef, undef, undef, undef, undef, undef, undef, undef, undef, undef, undef, undef, undef, undef, undef, undef, undef, undef], defers := [] } ∧ Blk W' g (flC (fs.getD x.1 [])) 38)
    (fun x a' => Own.from (fun s A B row hs hg hr => by obtain ⟨g, h1, h2, h3⟩ := hs; exact ⟨g, h1, h2, h3.own hg hr⟩) _)
    ?assign ?body ?done ?stop
  case assign =>
    clear ST S3 k3
    rintro l pre x W' K ⟨hS, hB⟩ hK
    have ZH : Hid (Blk (W'.alloc (.cells #[.int .i64 0, .int .i64 0, .int .i64 0, .int .i64 0, .int .i64 0, .int .i64 0, .int .i64 0, .int .i64 0, .int .i64 0, .int .i64 0] 38)) W'.heap.size #[.int .i64 0, .int .i64 0, .int .i64 0, .int .i64 0, .int .i64 0, .int .i64 0, .int .i64 0, .int .i64 0, .int .i64 0, .int .i64 0] 38) := Blk.made _ _ _
    have KZ : Hid (Kpt W' (W'.alloc (.cells #[.int .i64 0, .int .i64 0, .int .i64 0, .int .i64 0, .int .i64 0, .int .i64 0, .int .i64 0, .int .i64 0, .int .i64 0, .int .i64 0] 38))) := (Kpt.refl W').alloc _
    have hq := hS.bm.lt
    have hc10 : (flC (fs.getD x.1 [])).size = 10 := rfl
    have hone : (flC (fs.getD x.1 [])).all (·.oneCell') = true := by simp [flC, Value.oneCell']
    generalize openL (fs.getD x.1 []) = U at hK ⊢
    generalize flC (fs.getD x.1 []) = FC at hK hc10 hone ⊢
    gi_wp2_with (refine wpIn_storeF rfl (.tmp 12) (.tmp 31) rfl W'.heap.size _ _ rfl rfl ZH.out rfl hc10 hone ?_; intro w9 r9 k9 o9; have R9 := Lib.hid r9; have K9 : Hid (Kpt W' w9) := Lib.hid (k9 _ _ KZ.out (Nat.le_refl _)); clear r9 k9 o9)
    exact hK _ _ ((kothers K9.out).from _) (Below.mono K9.out hB.size) ⟨hS.kpt K9.out, hB.trans (Below.mono K9.out hB.size)⟩ ⟨_, hq, rfl, R9.out⟩
  case body =>
    clear ST S3 k3
    rintro l pre x a' W' hl - ⟨hS, hB⟩ ⟨g, hq, rfl, h7⟩ hlen
    have c5 : W'.cell? ⟨g, 5, none⟩ = some (.int .i64 ((fs.getD x.1 []).getD 5 0)) := h7.cell 5
    have b6 : W'.cell? ⟨w.heap.size + 1, 0, none⟩ = some (.int .i64 q) := hS.bq.cell 0
    have fb := fail_bd (HFL.out _ (getF_mem x.2))
    have HI : Hid (∀ W2 zs, zs = ageT W hs q es fs (pre ++ [x]) → AS w.heap.size w1.heap.size #[.int .i64 W, .slice a hs.length cap] q (.slice a3 es.length cap3) (.slice (some ⟨w1.heap.size, 0, none⟩) (es.length + 1) (es.length + 1)) zs W2 → Kpt' w.heap.size W' W2 → KeepsFrom w3.heap.size W' W2 ∧ Below w.heap.size W' W2 ∧ (AS w.heap.size w1.heap.size #[.int .i64 W, .slice a hs.length cap] q (.slice a3 es.length cap3) (.slice (some ⟨w1.heap.size, 0, none⟩) (es.length + 1) (es.length + 1)) (ageT W hs q es fs (pre ++ [x])) W2 ∧ Below w.heap.size w W2)) := by
      intro W2 zs hz hs ht
      subst hz
      exact ⟨ht.1.from _, ht.2, hs, hB.trans ht.2⟩
    have tz := fun h => tal_0 (m := es.length + 1) (fun x : Fin fs.length => ageK W hs q es (fs.getD x.1 [])) (fun x => ageV q (fs.getD x.1 [])) pre x h
    have ts := tal_s (m := es.length + 1) (fun x : Fin fs.length => ageK W hs q es (fs.getD x.1 [])) (fun x => ageV q (fs.getD x.1 [])) pre x (by unfold ageK; have := List.countP_le_length (p := fun e => decide (e < couR W hs ((fs.getD x.1 []).getD 5 0) q + 1)) (l := es); omega)
    have tb := tal_bd (m := es.length + 1) (c := 1) (fun x : Fin fs.length => ageK W hs q es (fs.getD x.1 [])) (fun x => ageV q (fs.getD x.1 [])) (by decide) (fun x => by unfold ageV; split <;> omega) pre (ageK W hs q es (fs.getD x.1 []))
    have tl := tal_len (fun x : Fin fs.length => ageK W hs q es (fs.getD x.1 [])) (fun x => ageV q (fs.getD x.1 [])) (es.length + 1) pre
    change ageV q (fs.getD x.1 []) = 0 → ageT W hs q es fs (pre ++ [x]) = ageT W hs q es fs pre at tz
    change ageT W hs q es fs (pre ++ [x]) = (ageT W hs q es fs pre).set (ageK W hs q es (fs.getD x.1 [])) ((ageT W hs q es fs pre).getD (ageK W hs q es (fs.getD x.1 [])) 0 + ageV q (fs.getD x.1 [])) at ts
    change 0 ≤ (ageT W hs q es fs pre).getD (ageK W hs q es (fs.getD x.1 [])) 0 ∧ (ageT W hs q es fs pre).getD (ageK W hs q es (fs.getD x.1 [])) 0 ≤ (pre.length : Int) * 1 at tb
    change (ageT W hs q es fs pre).length = es.length + 1 at tl
    by_cases hd : q ≤ (fs.getD x.1 []).getD 5 0
    · have hv : ageV q (fs.getD x.1 []) = 0 := by unfold ageV; rw [if_neg (by omega)]
      have e1 := tz hv
      have HR2 := Lib.hid (HI.out W' _ e1.symm hS ⟨KeepsOthers.refl _, Below.refl _ _⟩)
      have q1 : decide (q ≤ (fs.getD x.1 []).getD 5 0) = true := decide_eq_true hd
      clear tz ts tb tl e1 hv HI fb hS h7 hd
      generalize (fs.getD x.1 []).getD 5 0 = D at *
      generalize openL (fs.getD x.1 []) = U at *
      generalize flC (fs.getD x.1 []) = FC at *
      gi_wp2
      exact HR2.out
    · have hv : ageV q (fs.getD x.1 []) = 1 := by unfold ageV; rw [if_pos (by omega)]
      have q1 : decide (q ≤ (fs.getD x.1 []).getD 5 0) = false := decide_eq_false hd
      have hco := cou_ok hc1 fb.2.2.2.2.2.2.1.1 (by omega : (fs.getD x.1 []).getD 5 0 ≤ q) hc3.2
      have hcb : 0 ≤ couR W hs ((fs.getD x.1 []).getD 5 0) q ∧ couR W hs ((fs.getD x.1 []).getD 5 0) q ≤ 3652058 := by
        rw [hco.1]
        have := cnt_le (bizB W hs) ((fs.getD x.1 []).getD 5 0) q
        have := fb.2.2.2.2.2.2.1
        omega
      have CX := Lib.hid (fun w' (k : Kpt w w') => by have := CO.out ((fs.getD x.1 []).getD 5 0) w' k; rw [hco.2] at this; exact this)
      have hpl : ageK W hs q es (fs.getD x.1 []) < es.length + 1 := by unfold ageK; have := List.countP_le_length (p := fun e => decide (e < couR W hs ((fs.getD x.1 []).getD 5 0) q + 1)) (l := es); omega
      rw [hv] at ts
      have BX := Lib.hid (fun w' (k : Kpt w w') => BS.out (couR W hs ((fs.getD x.1 []).getD 5 0) q + 1) w' k)
      change Hid (∀ w', Kpt w w' → Calls Try.prog 20 #[.slice a3 es.length cap3, .int .i64 (couR W hs ((fs.getD x.1 []).getD 5 0) q + 1)] w' fun e w'' => (∃ b : Bool, e = .returned (.tuple #[.int .i64 ((ageK W hs q es (fs.getD x.1 []) : Nat) : Int), .bool b])) ∧ Kpt w' w'') at BX
      have h60' : (pre.length : Int) ≤ 60 := by omega
      clear tz hv hco fb hd CO BS
      have HB := Lib.hid hB
      have HS := Lib.hid hS
      have TS := Lib.hid ts
      generalize (fs.getD x.1 []).getD 5 0 = D at *
      generalize openL (fs.getD x.1 []) = U at *
      generalize flC (fs.getD x.1 []) = FC at *
      generalize ageK W hs q es (fs.getD x.1 []) = P at *
      generalize couR W hs D q = C at *
      generalize ageT W hs q es fs pre = zs at *
      generalize hz : zs.getD P 0 = Z at *
      have HZ := Lib.hid hz
      have m2 : IntKind.i64.wrap (C + 1) = C + 1 := IntWalk.i64_in _ (by omega)
      have m3 : IntKind.i64.wrap (Z + 1) = Z + 1 := IntWalk.i64_in _ (by omega)
      have i0 : (0 : Int) ≤ (P : Int) := by omega
      have i1 : (P : Int) < (es.length : Int) + 1 := by omega
      have i2 : (P : Int) < ((es.length + 1 : Nat) : Int) := by omega
      have b40 : W'.cell? ⟨w.heap.size, 0, none⟩ = some (.int .i64 W) := hS.bc.cell 0
      have b41 : W'.cell? ⟨w.heap.size, 1, none⟩ = some (.slice a hs.length cap) := hS.bc.cell 1
      have TL := Lib.hid tl
      clear tb ts tl hS hB h7 hz
      gi_wp2_with (first
        | (refine ⟨trivial, ?_⟩; gi_at_call 19; refine (CallsIn.inRound l (callsIn_wide.2 (CX.out _ (HB.out)))).mono ?_; rintro e w4 ⟨rfl, k4⟩; have K4 := Lib.hid k4; have b7 : World.cell? w4 ⟨w.heap.size + 2, 0, none⟩ = some (.slice a3 es.length cap3) := (HS.out.kpt k4).be.cell 0; clear k4)
        | (refine ⟨trivial, ?_⟩; gi_at_call 20; refine (CallsIn.inRound l (callsIn_wide.2 (BX.out _ (HB.out.trans (K4.out.mono HB.out.size))))).mono ?_; rintro e w5 ⟨⟨bb, rfl⟩, k5⟩; have K5 := Lib.hid (ktr K4.out k5); have S5 := Lib.hid (HS.out.kpt K5.out); have b8 : World.cell? w5 ⟨w1.heap.size + 1, 0, none⟩ = some (.slice (some ⟨w1.heap.size, 0, none⟩) (es.length + 1) (es.length + 1)) := S5.out.bm.cell 0; have b9 : World.cell? w5 ⟨w1.heap.size, P, none⟩ = some (.int .i64 Z) := (S5.out.im.cell (by rw [TL.out]; omega)).trans (by rw [HZ.out]); have b10 := S5.out.im.frozen P; clear k5))
      exact HI.out _ _ TS.out.symm (S5.out.put (by omega) P (Z + 1)) ⟨(kothers K5.out).trans (KeepsOthers.setCell _ _ _), Below.setCell (K5.out.mono HB.out.size) (by show w.heap.size ≤ w1.heap.size; omega) _⟩
  case done =>
    clear ST S3 k3
    rintro D ys W' hD rfl ⟨hS, hB⟩ hK
    have b11 : W'.cell? ⟨w1.heap.size + 1, 0, none⟩ = some (.slice (some ⟨w1.heap.size, 0, none⟩) (es.length + 1) (es.length + 1)) := hS.bm.cell 0
    have HM := Lib.hid (hS.im.own (grownBy_putObj' W' D (.deferred none)) (fun r e => by cases e; exact ⟨_, hK, rfl⟩))
    have HBE := Lib.hid (hB.trans (belowK_b (w := w) (Nat.le_refl _) W' D (.deferred (some [])) (.deferred none) (by omega) hK rfl rfl))
    have HK := Lib.hid hK
    have hg : w.heap.size ≤ w1.heap.size := by omega
    clear hS hB hK
    gi_wp2
    refine ⟨by simp, .inl ⟨_, _, rfl, run_takeDeferred (w := W') HK.out, ?_⟩⟩
    exact ⟨_, results_tmp2 Try.results4 _ _ _, ⟨_, hg, rfl, HM.out⟩, HBE.out⟩
  case stop =>
    rintro D c pre W' _ _ h _
    exact h.elim

end Go.Proofs.Ytagmgpdgiphhbaa

-- RepE
namespace Go.Proofs.Ytagmgpdgiphhbaa
open Go.RowKit Go.Shelf
set_option linter.unusedVariables false
attribute [local go_sem] Oper.semAt_some

/-- the sums of the first ones by the party of a column -/
def ptyT (c : Nat) (fs : List (List Int)) (xs : List (Fin fs.length)) : List Int := tal (fun x : Fin fs.length => ((fs.getD x.1 []).getD c 0).toNat) (fun x => openL (fs.getD x.1 [])) 31 xs

set_option maxRecDepth 100000 in
set_option maxHeartbeats 4000000 in
theorem parties_bad (v : Value) (fs : List (List Int)) (w : World) (hF : ReadsF w v fs) (h : checksE fs ≠ 0) :
    Calls Try.prog 5 #[v] w fun e w' => e = .returned (.tuple #[.slice none 0 0, .slice none 0 0, .int .i64 (checksE fs)]) ∧ Kpt w w' := by
  have CA := Lib.hid (checks_run v fs w hF)
  obtain ⟨a2, cap2, rfl, -⟩ := hF
  have z : (checksE fs != 0) = true := bne_iff_ne.2 h
  clear h
  generalize checksE fs = E at *
  generalize fs.length = n3 at *
  go_enter Try.func5, Try.ntmps5
  go_wp2_with (go_at_call 21; (with_reducible refine CA.out.mono ?_); rintro e w1 ⟨rfl, k1⟩; have K1 := Lib.hid k1; clear k1)
  go_ret3
  exact ⟨rfl, K1.out⟩

theorem Blk.put0 {w : World} {g : Nat} {u : Value} {T : TypeId} (h : Blk w g #[u] T) (v : Value) : Blk (w.setCell ⟨g, 0, none⟩ v) g #[v] T := h.put 0 v
theorem IB.zeros' {w : World} {n g : Nat} (h : w.heap.size = g) : IB (w.alloc (.cells (Array.replicate n (Value.int .i64 0)) 3)) g (List.replicate n 0) := by subst h; exact IB.zeros _ _
theorem Blk.drew' {w : World} {g : Nat} {cs : Array Value} {T : TypeId} (h : Blk w g cs T) : Blk w.drew g cs T := h
theorem Kpt.drew' {w w' : World} (h : Kpt w w') : Kpt w w'.drew := Below.drew h
theorem IB.drew {w : World} {g : Nat} {zs : List Int} (h : IB w g zs) : IB w.drew g zs := h

/-- what lies in a round of Parties -/
structure PS (b6 b7 m1 m2 : Nat) (xs ys : List Int) (W : World) : Prop where
  b6 : Blk W b6 #[.slice (some ⟨m1, 0, none⟩) 31 31] 22
  b7 : Blk W b7 #[.slice (some ⟨m2, 0, none⟩) 31 31] 22
  i1 : IB W m1 xs
  i2 : IB W m2 ys

theorem Blk.nrow {w : World} {g m : Nat} {cs : Array Value} {T : TypeId} {zs : List Int} (h : Blk w g cs T) (hT : T ≠ 3) (hm : IB w m zs) : g ≠ m := by
  rintro rfl
  obtain ⟨cur, h1, -⟩ := hm
  have := (show w.heap[g]? = _ from h).symm.trans (show w.heap[g]? = _ from h1)
  injection this with this
  injection this with _ e
  exact hT e
theorem PS.kpt {b6 b7 m1 m2 : Nat} {xs ys : List Int} {W W' : World} (h : PS b6 b7 m1 m2 xs ys W) (k : Kpt W W') : PS b6 b7 m1 m2 xs ys W' := ⟨h.b6.kpt k, h.b7.kpt k, h.i1.kpt k, h.i2.kpt k⟩
theorem PS.own {b6 b7 m1 m2 : Nat} {xs ys : List Int} {w w' : World} {row : Option Nat} (h : PS b6 b7 m1 m2 xs ys w) (k : w.grownBy w' row) (hr : ∀ r, row = some r → ∃ o : Obj, w.heap[r]? = some o ∧ o.isCells = false) : PS b6 b7 m1 m2 xs ys w' :=
  ⟨h.b6.own k hr, h.b7.own k hr, h.i1.own k hr, h.i2.own k hr⟩
theorem PS.put1 {b6 b7 m1 m2 : Nat} {xs ys : List Int} {W : World} (h : PS b6 b7 m1 m2 xs ys W) (hn : m1 ≠ m2) (j : Nat) (z : Int) : PS b6 b7 m1 m2 (xs.set j z) ys (W.setCell ⟨m1, j, none⟩ (.int .i64 z)) :=
  ⟨h.b6.away (h.b6.nrow (by decide) h.i1) _, h.b7.away (h.b7.nrow (by decide) h.i1) _, h.i1.put j z, h.i2.away (fun e => hn e.symm) _⟩
theorem PS.put2 {b6 b7 m1 m2 : Nat} {xs ys : List Int} {W : World} (h : PS b6 b7 m1 m2 xs ys W) (hn : m1 ≠ m2) (j : Nat) (z : Int) : PS b6 b7 m1 m2 xs (ys.set j z) (W.setCell ⟨m2, j, none⟩ (.int .i64 z)) :=
  ⟨h.b6.away (h.b6.nrow (by decide) h.i2) _, h.b7.away (h.b7.nrow (by decide) h.i2) _, h.i1.away hn _, h.i2.put j z⟩
theorem PS.drew {b6 b7 m1 m2 : Nat} {xs ys : List Int} {W : World} (h : PS b6 b7 m1 m2 xs ys W) : PS b6 b7 m1 m2 xs ys W.drew := ⟨h.b6, h.b7, h.i1, h.i2⟩
/-- what a step of a round keeps -/
def Kpp (n0 : Nat) (W W' : World) : Prop := KeepsOthers W W' ∧ Below n0 W W'
theorem Kpp.t {n0 : Nat} {A B C : World} (h : Kpp n0 A B) (k : Kpp n0 B C) : Kpp n0 A C := ⟨h.1.trans k.1, h.2.trans k.2⟩

set_option maxRecDepth 100000 in
set_option maxHeartbeats 4000000 in
theorem parties_ok (a2 : Option Addr) (cap2 : Nat) (fs : List (List Int)) (w : World) (hF : ReadsF w (.slice a2 fs.length cap2) fs) (h : checksE fs = 0) :
    Calls Try.prog 5 #[.slice a2 fs.length cap2] w fun e w' => (∃ g1 g2, w.heap.size ≤ g1 ∧ w.heap.size ≤ g2 ∧ g1 ≠ g2 ∧ e = .returned (.tuple #[.slice (some ⟨g1, 0, none⟩) 31 31, .slice (some ⟨g2, 0, none⟩) 31 31, .int .i64 0]) ∧ IB w' g1 (ptyT 1 fs (opn fs fs.length)) ∧ IB w' g2 (ptyT 2 fs (opn fs fs.length))) ∧ Kpt w w' := by
  have CA := Lib.hid (checks_run _ fs w hF)
  rw [h] at CA
  obtain ⟨h60, hfl⟩ := checksE_0 h
  have HR := Lib.hid hF
  obtain ⟨a', cap', e, hm, -, hcl⟩ := hF
  injection e with e1 _ e3
  subst e1 e3
  have HFL := Lib.hid hfl
  unfold maxLen at hm
  clear hcl h hfl
  have MK : ∀ w, (Instr.makeSlice 22 (.int .i64 31) (.int .i64 31)).run Try.prog w = .ok (.slice (some ⟨w.heap.size, 0, none⟩) 31 31) (w.alloc (.cells (Array.replicate 31 (Value.int .i64 0)) 3)) := fun w => run_zeros w 31 (by omega)
  have hmx : Try.prog.follows .mixedOrders = true := by kernel_rfl
  refine (callsIn_wide (n := 3)).1 ?_
  refine callsIn_of_wp_marks Try.func5 rfl trivial ?_ rfl
  simp only [Try.ntmps5, List.size_toArray, List.length_cons, List.length_nil, Nat.reduceAdd, Nat.reduceSub, Array.replicate_succ, Array.replicate_zero, List.push_toArray, List.append_toArray, List.nil_append, List.cons_append]
  gi_wp2_with (first
    | (refine ⟨trivial, ?_⟩; gi_at_call 21; (with_reducible refine (callsIn_wide.2 CA.out).mono ?_); rintro e w1 ⟨rfl, k1⟩; have K1 := Lib.hid k1; clear k1)
    | (refine ⟨trivial, ?_⟩; gi_at_call 18; (with_reducible refine (callsIn_wide.2 (open_it _ _ _ _)).mono ?_); rintro e w' ⟨rfl, rfl⟩))
  refine wpIn_mono (Q := fun e a' w' => match e with | .normal => ∃ b6 b7 m1 m2, a' = { tmps := #[.slice a2 fs.length cap2, undef, .slice none 0 0, .slice none 0 0, .int .i64 0, .int .i64 0, .pointer (some ⟨b6, 0, none⟩), .pointer (some ⟨b7, 0, none⟩), undef, undef, .slice a2 fs.length cap2, .int .i64 0, .int .i64 0, .bool false, undef, .slice (some ⟨m1, 0, none⟩) 31 31, .slice (some ⟨m2, 0, none⟩) 31 31, undef, undef, undef, undef, undef, undef, undef, undef, undef, undef, undef, undef, undef, undef, undef, undef, undef, undef, undef, undef, undef, undef], defers := [] } ∧ PS b6 b7 m1 m2 (List.replicate 31 0) (List.replicate 31 0) w' ∧ Kpt w1 w' ∧ (w1.heap.size ≤ m1 ∧ w1.heap.size ≤ m2 ∧ m1 ≠ m2) | _ => False) ?_ (fun e a' w4 hh => ?_)
  · clear HR HFL K1
    gi_region_with_o (fail)
    all_goals refine ⟨_, _, _, _, rfl, ⟨?_, ?_, ?_, ?_⟩, ?_, ?_⟩
    all_goals first
      | (with_reducible refine Blk.drew' (Blk.made' ?_); simp; done)
      | (with_reducible refine Blk.drew' ((Blk.made' ?_).alloc _); simp; done)
      | (with_reducible refine Blk.drew' (((Blk.made' ?_).alloc _).alloc _); simp; done)
      | (with_reducible refine Blk.drew' ((((Blk.made' ?_).alloc _).alloc _).alloc _); simp; done)
      | (with_reducible refine IB.drew (IB.zeros' ?_); simp; done)
      | (with_reducible refine IB.drew ((IB.zeros' ?_).alloc _); simp; done)
      | (with_reducible refine IB.drew (((IB.zeros' ?_).alloc _).alloc _); simp; done)
      | (with_reducible refine IB.drew ((((IB.zeros' ?_).alloc _).alloc _).alloc _); simp; done)
      | with_reducible exact Kpt.drew' (((((Kpt.refl _).alloc _).alloc _).alloc _).alloc _)
      | (refine ⟨?_, ?_, ?_⟩ <;> omega)
  obtain rfl : e = .normal := by cases e <;> first | rfl | exact hh.elim
  obtain ⟨b6, b7, m1, m2, rfl, hP, hk, hm1, hm2, hne⟩ := hh
  have K2 := Lib.hid (ktr K1.out hk)
  have HP := Lib.hid hP
  have hs := Below.size K1.out
  clear hP hk K1
  gi_wp2_with (refine ⟨trivial, ?_⟩; gi_at_call 18; (with_reducible refine (callsIn_wide.2 (open_it _ _ _ _)).mono ?_); rintro e w' ⟨rfl, rfl⟩)
  obtain ⟨w3, hw3⟩ : ∃ w3, (w4.alloc (.cells #[.slice a2 fs.length cap2] 25)) = w3 := ⟨_, rfl⟩
  have k13 : Kpt w4 w3 := by rw [← hw3]; exact (Kpt.refl w4).alloc _
  have bF : Blk w3 w4.heap.size #[.slice a2 fs.length cap2] 25 := by rw [← hw3]; exact Blk.made _ _ _
  have S3 : PS b6 b7 m1 m2 (List.replicate 31 0) (List.replicate 31 0) w3 := HP.out.kpt k13
  have k3 : Below w.heap.size w w3 := ktr K2.out k13
  have sz : w3.heap.size = w4.heap.size + 1 := by rw [← hw3]; simp
  have hs3 : w.heap.size ≤ w3.heap.size := Below.size k3
  have ST := open_stops 2 (by omega) w.heap.size w w3 rfl _ fs w4.heap.size HR.out k3 (bF.cell 0)
  rw [hw3]
  clear hw3 k13 bF HP K2 MK hmx
  refine wpIn_rangeFunc_ownH rfl (by omega) (gf := 42) (lb := #[.pointer (some ⟨w4.heap.size, 0, none⟩)]) rfl trivial (enters_of Try.func42 (by kernel_rfl) rfl)
    ST (fun h k => h.trans k) (fun W l o o' hl h h1 h2 => belowK_b (w := w) (n₀ := w.heap.size) (Nat.le_refl _) W l o o' (by omega) h h1 h2) (Below.refl _ _) (fun _ => rfl)
    (fun pre W' => PS b6 b7 m1 m2 (ptyT 1 fs pre) (ptyT 2 fs pre) W' ∧ Below w.heap.size w W') (fun _ _ _ => False)
    (OwnFrom.and (Own.from (fun s A B row hs hg hr => hs.own hg hr) _) (ownFrom_below (Nat.le_refl _) (by omega)))
    (fun _ _ _ _ _ hs _ _ => hs)
    ⟨by unfold ptyT; rw [tal_nil, tal_nil]; exact S3, k3⟩
    (fun x a' W' => ∃ g, a' = { tmps := #[.slice a2 fs.length cap2, undef, .slice none 0 0, .slice none 0 0, .int .i64 0, .int .i64 0, .pointer (some ⟨b6, 0, none⟩), .pointer (some ⟨b7, 0, none⟩), .pointer (some ⟨g, 0, none⟩), .int .i64 (openL (fs.getD x.1 [])), .slice a2 fs.length cap2, .int .i64 0, .int .i64 0, .bool false, undef, .slice (some ⟨m1, 0, none⟩) 31 31, .slice (some ⟨m2, 0, none⟩) 31 31, .slice a2 fs.length cap2, .func (.func 42) #[] #[.pointer (some ⟨w4.heap.size, 0, none⟩)], .agg (flC (fs.getD x.1 [])), .int .i64 (openL (fs.getD x.1 [])), undef, undef, undef, undef, undef, undef, undef, undef, undef, undef, undef, undef, undef, undef, undef, undef, undef, undef], defers := [] } ∧ Blk W' g (flC (fs.getD x.1 [])) 38)
    (fun x a' => Own.from (fun s A B row hs hg hr => by obtain ⟨g, h2, h3⟩ := hs; exact ⟨g, h2, h3.own hg hr⟩) _)
    ?assign ?body ?done ?stop
  case assign =>
    clear ST S3 k3
    rintro l pre x W' K ⟨hS, hB⟩ hK
    have ZH : Hid (Blk (W'.alloc (.cells #[.int .i64 0, .int .i64 0, .int .i64 0, .int .i64 0, .int .i64 0, .int .i64 0, .int .i64 0, .int .i64 0, .int .i64 0, .int .i64 0] 38)) W'.heap.size #[.int .i64 0, .int .i64 0, .int .i64 0, .int .i64 0, .int .i64 0, .int .i64 0, .int .i64 0, .int .i64 0, .int .i64 0, .int .i64 0] 38) := Blk.made _ _ _
    have KZ : Hid (Kpt W' (W'.alloc (.cells #[.int .i64 0, .int .i64 0, .int .i64 0, .int .i64 0, .int .i64 0, .int .i64 0, .int .i64 0, .int .i64 0, .int .i64 0, .int .i64 0] 38))) := (Kpt.refl W').alloc _
    have hc10 : (flC (fs.getD x.1 [])).size = 10 := rfl
    have hone : (flC (fs.getD x.1 [])).all (·.oneCell') = true := by simp [flC, Value.oneCell']
    generalize openL (fs.getD x.1 []) = U at hK ⊢
    generalize flC (fs.getD x.1 []) = FC at hK hc10 hone ⊢
    gi_wp2_with (refine wpIn_storeF rfl (.tmp 8) (.tmp 19) rfl W'.heap.size _ _ rfl rfl ZH.out rfl hc10 hone ?_; intro w9 r9 k9 o9; have R9 := Lib.hid r9; have K9 : Hid (Kpt W' w9) := Lib.hid (k9 _ _ KZ.out (Nat.le_refl _)); clear r9 k9 o9)
    exact hK _ _ ((kothers K9.out).from _) (Below.mono K9.out hB.size) ⟨hS.kpt K9.out, hB.trans (Below.mono K9.out hB.size)⟩ ⟨_, rfl, R9.out⟩
  case body =>
    clear ST S3 k3
    rintro l pre x a' W' hl - ⟨hS, hB⟩ ⟨g, rfl, h7⟩ hlen
    have fb := fail_bd (HFL.out _ (getF_mem x.2))
    have hU := openL_bd (fs.getD x.1 [])
    have HI : Hid (∀ W2 xs ys, xs = ptyT 1 fs (pre ++ [x]) → ys = ptyT 2 fs (pre ++ [x]) → PS b6 b7 m1 m2 xs ys W2 → Kpp w.heap.size W' W2 → KeepsFrom w3.heap.size W' W2 ∧ Below w.heap.size W' W2 ∧ (PS b6 b7 m1 m2 (ptyT 1 fs (pre ++ [x])) (ptyT 2 fs (pre ++ [x])) W2 ∧ Below w.heap.size w W2)) := by
      intro W2 xs ys hx hy hs ht
      subst hx hy
      exact ⟨ht.1.from _, ht.2, hs, hB.trans ht.2⟩
    obtain ⟨n1, e1⟩ : ∃ n : Nat, (fs.getD x.1 []).getD 1 0 = (n : Int) := ⟨((fs.getD x.1 []).getD 1 0).toNat, by omega⟩
    obtain ⟨n2, e2⟩ : ∃ n : Nat, (fs.getD x.1 []).getD 2 0 = (n : Int) := ⟨((fs.getD x.1 []).getD 2 0).toNat, by omega⟩
    have t1 := tal_s (m := 31) (fun x : Fin fs.length => ((fs.getD x.1 []).getD 1 0).toNat) (fun x => openL (fs.getD x.1 [])) pre x (by show ((fs.getD x.1 []).getD 1 0).toNat < 31; omega)
    have t2 := tal_s (m := 31) (fun x : Fin fs.length => ((fs.getD x.1 []).getD 2 0).toNat) (fun x => openL (fs.getD x.1 [])) pre x (by show ((fs.getD x.1 []).getD 2 0).toNat < 31; omega)
    have tb1 := tal_bd (m := 31) (c := 1073741824) (fun x : Fin fs.length => ((fs.getD x.1 []).getD 1 0).toNat) (fun x => openL (fs.getD x.1 [])) (by decide) (fun x => openL_bd _) pre n1
    have tb2 := tal_bd (m := 31) (c := 1073741824) (fun x : Fin fs.length => ((fs.getD x.1 []).getD 2 0).toNat) (fun x => openL (fs.getD x.1 [])) (by decide) (fun x => openL_bd _) pre n2
    have tl1 := tal_len (fun x : Fin fs.length => ((fs.getD x.1 []).getD 1 0).toNat) (fun x => openL (fs.getD x.1 [])) 31 pre
    have tl2 := tal_len (fun x : Fin fs.length => ((fs.getD x.1 []).getD 2 0).toNat) (fun x => openL (fs.getD x.1 [])) 31 pre
    change ptyT 1 fs (pre ++ [x]) = (ptyT 1 fs pre).set ((fs.getD x.1 []).getD 1 0).toNat ((ptyT 1 fs pre).getD ((fs.getD x.1 []).getD 1 0).toNat 0 + openL (fs.getD x.1 [])) at t1
    change ptyT 2 fs (pre ++ [x]) = (ptyT 2 fs pre).set ((fs.getD x.1 []).getD 2 0).toNat ((ptyT 2 fs pre).getD ((fs.getD x.1 []).getD 2 0).toNat 0 + openL (fs.getD x.1 [])) at t2
    change 0 ≤ (ptyT 1 fs pre).getD n1 0 ∧ (ptyT 1 fs pre).getD n1 0 ≤ (pre.length : Int) * 1073741824 at tb1
    change 0 ≤ (ptyT 2 fs pre).getD n2 0 ∧ (ptyT 2 fs pre).getD n2 0 ≤ (pre.length : Int) * 1073741824 at tb2
    change (ptyT 1 fs pre).length = 31 at tl1
    change (ptyT 2 fs pre).length = 31 at tl2
    have l1 : n1 < 31 := by omega
    have l2 : n2 < 31 := by omega
    rw [e1, Int.toNat_natCast] at t1
    rw [e2, Int.toNat_natCast] at t2
    have d1 : W'.cell? ⟨g, 1, none⟩ = some (.int .i64 (n1 : Int)) := by have := h7.cell 1; rw [← e1]; exact this
    have d2 : W'.cell? ⟨g, 2, none⟩ = some (.int .i64 (n2 : Int)) := by have := h7.cell 2; rw [← e2]; exact this
    have hlen' : (pre.length : Int) ≤ 60 := by omega
    clear fb e1 e2
    generalize openL (fs.getD x.1 []) = U at *
    have T1 := Lib.hid t1
    have T2 := Lib.hid t2
    have HB := Lib.hid hB
    have HS := Lib.hid hS
    have HG := Lib.hid h7
    clear t1 t2 hB hS h7
    generalize flC (fs.getD x.1 []) = FC at *
    generalize ptyT 1 fs pre = xs at *
    generalize ptyT 2 fs pre = ys at *
    generalize hz1 : xs.getD n1 0 = Z1 at *
    generalize hz2 : ys.getD n2 0 = Z2 at *
    have L1 := Lib.hid tl1
    have L2 := Lib.hid tl2
    have HN := Lib.hid hne
    have m1' : IntKind.i64.wrap (Z1 + U) = Z1 + U := IntWalk.i64_in _ (by omega)
    have m2' : IntKind.i64.wrap (Z2 + U) = Z2 + U := IntWalk.i64_in _ (by omega)
    have v6 : W'.cell? ⟨b6, 0, none⟩ = some (.slice (some ⟨m1, 0, none⟩) 31 31) := HS.out.b6.cell 0
    have c1 : W'.cell? ⟨m1, n1, none⟩ = some (.int .i64 Z1) := by rw [← hz1]; exact HS.out.i1.cell (by omega)
    have f1 := HS.out.i1.frozen n1
    have S4 := Lib.hid (HS.out.put1 hne n1 (Z1 + U))
    have v7 : (W'.setCell ⟨m1, n1, none⟩ (.int .i64 (Z1 + U))).cell? ⟨b7, 0, none⟩ = some (.slice (some ⟨m2, 0, none⟩) 31 31) := S4.out.b7.cell 0
    have c2 : (W'.setCell ⟨m1, n1, none⟩ (.int .i64 (Z1 + U))).cell? ⟨m2, n2, none⟩ = some (.int .i64 Z2) := by rw [← hz2]; exact S4.out.i2.cell (by omega)
    have f2 := S4.out.i2.frozen n2
    have d3 : (W'.setCell ⟨m1, n1, none⟩ (.int .i64 (Z1 + U))).cell? ⟨g, 2, none⟩ = some (.int .i64 (n2 : Int)) := set_far (HG.out.nrow (by decide) HS.out.i1).symm d2
    have S5 := Lib.hid (S4.out.put2 hne n2 (Z2 + U))
    have G1 := Lib.hid (hm1)
    have G2 := Lib.hid (hm2)
    have G3 := Lib.hid (hs)
    clear hz1 hz2 tl1 tl2 tb1 tb2 hne hlen'
    gi_wp2
    exact HI.out _ _ _ T1.out.symm T2.out.symm S5.out (Kpp.t ⟨KeepsOthers.setCell _ _ _, Below.setCell (Below.refl _ _) (by show w.heap.size ≤ m1; have := G1.out; have := G3.out; omega) _⟩ ⟨KeepsOthers.setCell _ _ _, Below.setCell (Below.refl _ _) (by show w.heap.size ≤ m2; have := G2.out; have := G3.out; omega) _⟩)
  case done =>
    clear ST S3 k3
    rintro D ys W' hD rfl ⟨hS, hB⟩ hK
    have v6 : W'.cell? ⟨b6, 0, none⟩ = some (.slice (some ⟨m1, 0, none⟩) 31 31) := hS.b6.cell 0
    have v7 : W'.cell? ⟨b7, 0, none⟩ = some (.slice (some ⟨m2, 0, none⟩) 31 31) := hS.b7.cell 0
    have HS := Lib.hid ((hS.drew).own (grownBy_putObj' W'.drew D (.deferred none)) (fun r e => by cases e; exact ⟨_, hK, rfl⟩))
    have HBE := Lib.hid ((Below.drew hB).trans (belowK_b (w := w) (Nat.le_refl _) W'.drew D (.deferred (some [])) (.deferred none) (by omega) hK rfl rfl))
    have HK := Lib.hid hK
    clear hS hB hK
    have hmx : Try.prog.follows .mixedOrders = true := by kernel_rfl
    have g1 : w.heap.size ≤ m1 := by omega
    have g2 : w.heap.size ≤ m2 := by omega
    gi_wp2
    refine wpIn_mono (Q := fun e a' w' => match e with | .normal => a' = { tmps := #[.slice a2 fs.length cap2, undef, .slice (some ⟨m1, 0, none⟩) 31 31, .slice (some ⟨m2, 0, none⟩) 31 31, .int .i64 0, .int .i64 0, .pointer (some ⟨b6, 0, none⟩), .pointer (some ⟨b7, 0, none⟩), undef, undef, .slice a2 fs.length cap2, .int .i64 0, .int .i64 0, .bool false, undef, .slice (some ⟨m1, 0, none⟩) 31 31, .slice (some ⟨m2, 0, none⟩) 31 31, .slice a2 fs.length cap2, .func (.func 42) #[] #[.pointer (some ⟨w4.heap.size, 0, none⟩)], undef, undef, undef, undef, undef, undef, undef, undef, undef, undef, undef, undef, undef, undef, undef, undef, undef, undef, .slice (some ⟨m1, 0, none⟩) 31 31, .slice (some ⟨m2, 0, none⟩) 31 31], defers := [{ target := .collected D, args := #[] }] } ∧ w' = W'.drew | _ => False) ?_ (fun e a' w' hh => ?_)
    · clear HS HBE HK HR HFL
      gi_region_with_o (fail)
      all_goals exact ⟨rfl, rfl⟩
    obtain rfl : e = .normal := by cases e <;> first | rfl | exact hh.elim
    obtain ⟨rfl, rfl⟩ := hh
    gi_wp2
    refine ⟨by simp, .inl ⟨_, _, rfl, run_takeDeferred (w := W'.drew) HK.out, ?_⟩⟩
    exact ⟨_, results_tmp3 Try.results5 _ _ _, ⟨_, _, g1, g2, hne, rfl, HS.out.i1, HS.out.i2⟩, HBE.out⟩
  case stop =>
    rintro D c pre W' _ _ h _
    exact h.elim

end Go.Proofs.Ytagmgpdgiphhbaa
