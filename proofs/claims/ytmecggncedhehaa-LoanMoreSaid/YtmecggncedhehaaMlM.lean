/-
  Merged: LMoreM, LawLM.
-/
import Derived.Test.YtmecggncedhehaaMlB
import Derived.Test.YtmecggncedhehaaMlb
import Derived.Deep.RegionHeld3
import Derived.Deep.AppendLies
-- LMoreM
namespace Go.Proofs.Ytmecggncedhehaa
set_option linter.unusedVariables false

theorem iota_s (n : Nat) : iota (n + 1) = iota n ++ [(n : Int)] := by
  unfold iota; rw [List.range_succ, List.map_append]; rfl
theorem more_mono {ps : List (Int × Int × Int)} {u : Int} (hE : wantE ps u = 0) : (bestR ps u).2 ≤ (bestR ps (u + 1)).2 ∨ wantE ps (u + 1) ≠ 0 := by
  by_cases hF : wantE ps (u + 1) = 0
  · left
    obtain ⟨h0, h1, h2⟩ := want_0 hE
    obtain ⟨h40, hall⟩ := loan_0 h0
    have od := ordL_is ps
    rw [(best_is hE).cost, (best_is hF).cost]
    exact grf_mono _ _ _ _ _ (fun o ho => by have := uO_bd hall (od.mem.1 ho); exact ⟨by omega, by omega⟩) (by omega) (by omega)
  · exact Or.inr hF
theorem more_cost {ps : List (Int × Int × Int)} {o : Int × Int × Int} {u : Int} (hE : wantE ps u = 0) (hF : wantE (ps ++ [o]) u = 0) : (bestR (ps ++ [o]) u).2 ≤ (bestR ps u).2 + ps.length := by
  obtain ⟨h0, h1, h2⟩ := want_0 hE
  obtain ⟨h40, hall⟩ := loan_0 h0
  obtain ⟨h0', _, _⟩ := want_0 hF
  obtain ⟨_, hall'⟩ := loan_0 h0'
  have hb := best_is hE
  have hb' := best_is hF
  have od := ordL_is ps
  have od' := ordL_is (ps ++ [o])
  have hU : ∀ o ∈ ordL ps, 0 ≤ uO ps o := fun o ho => by have := uO_bd hall (od.mem.1 ho); omega
  have e1 : (dotP (bestR ps u).1 ps).sum = grc (uO ps) (pO ps) (ordL ps) u := by
    rw [← dotP_iota, ← iota_sum ps.length _ _ od.perm]
    exact grd_dot (uO ps) (pO ps) (fun o => (bestR ps u).1.getD o.toNat 0) _ _ hb.at_
  have hl : (ps ++ [o]).length = ps.length + 1 := by simp
  have hz : (bestR ps u).1.getD ps.length 0 = 0 := by rw [List.getD_eq_getElem?_getD, List.getElem?_eq_none (by have := hb.len; omega)]; rfl
  have at1 : ∀ j : Nat, j < ps.length → (ps ++ [o]).getD j default = ps.getD j default := fun j hj => by
    rw [List.getD_eq_getElem?_getD, List.getD_eq_getElem?_getD, List.getElem?_append_left hj]
  have hxo : ∀ q ∈ ordL (ps ++ [o]), 0 ≤ (bestR ps u).1.getD q.toNat 0 ∧ (bestR ps u).1.getD q.toNat 0 ≤ uO (ps ++ [o]) q := fun q hq => by
    have hm := od'.mem.1 hq
    have hq0 := uO_bd hall' hm
    by_cases hj : q.toNat < ps.length
    · have := hb.bd q.toNat hj
      unfold uO
      rw [at1 _ hj]
      exact this
    · have : q.toNat = ps.length := by rw [hl] at hm; omega
      rw [this, hz]
      exact ⟨Int.le_refl _, by omega⟩
  have hs1 : ((ordL (ps ++ [o])).map fun q => (bestR ps u).1.getD q.toNat 0).sum = u := by
    rw [iota_sum (ps ++ [o]).length _ _ od'.perm, hl, iota_s, List.map_append, List.sum_append, rsum_at hb.len, hb.sum]
    simp only [List.map_cons, List.map_nil, List.sum_cons, List.sum_nil, Int.toNat_natCast, hz]
    omega
  have hs2 : ((ordL (ps ++ [o])).map fun q => (bestR ps u).1.getD q.toNat 0 * pO (ps ++ [o]) q).sum = (dotP (bestR ps u).1 ps).sum := by
    rw [iota_sum (ps ++ [o]).length _ _ od'.perm, hl, iota_s, List.map_append, List.sum_append, ← dotP_iota]
    simp only [List.map_cons, List.map_nil, List.sum_cons, List.sum_nil, Int.toNat_natCast, hz, Int.zero_mul, Int.add_zero]
    congr 1
    refine List.map_congr_left fun q hq => ?_
    have hm := iota_mem.1 hq
    unfold pO
    rw [at1 _ (by omega)]
  have hbest := grc_best (uO (ps ++ [o])) (pO (ps ++ [o])) (fun q => (bestR ps u).1.getD q.toNat 0) (ordL (ps ++ [o])) u 0 hxo (ordL_prices _) (fun q hq => (uO_bd hall' (od'.mem.1 hq)).2.2.1) (by omega) (by rw [hs1]; exact Int.le_refl _)
  rw [Int.mul_zero, Int.add_zero, hs2, e1] at hbest
  have g1 := grf_le (uO (ps ++ [o])) (pO (ps ++ [o])) (ordL (ps ++ [o])) u
  have g2 := grf_ge (uO ps) (pO ps) (ordL ps) u hU (by omega)
  have g3 := grn_le (uO ps) (ordL ps) u
  have g4 : ((ordL ps).length : Int) = ps.length := by
    have := od.perm.length_eq
    have h5 : (iota ps.length).length = ps.length := by simp [iota]
    omega
  rw [hb.cost, hb'.cost]
  omega

end Go.Proofs.Ytmecggncedhehaa

-- LawLM
namespace Go.Proofs.Ytmecggncedhehaa
open Go.RowKit Go.Lib
set_option linter.unusedVariables false

theorem grc_up (U p : Int → Int) : ∀ (os : List Int) (u : Int), (∀ o ∈ os, 0 ≤ U o ∧ 0 ≤ p o ∧ p o ≤ 1099511627776) → 0 ≤ u → grc U p os u ≤ u * 1099511627776
  | [], u, _, h => by simp only [grc]; omega
  | o :: os, u, h, h0 => by
    have h1 := h o (by simp)
    have ih := grc_up U p os (u - min u (U o)) (fun x hx => h x (by simp [hx])) (by omega)
    simp only [grc]
    have h2 : min u (U o) * p o ≤ min u (U o) * 1099511627776 := Int.mul_le_mul_of_nonneg_left h1.2.2 (by omega)
    omega
theorem best_up {ps : List (Int × Int × Int)} {u : Int} (hE : wantE ps u = 0) : 0 ≤ (bestR ps u).2 ∧ (bestR ps u).2 ≤ 118059162071741130 := by
  obtain ⟨h0, h1, h2⟩ := want_0 hE
  obtain ⟨h40, hall⟩ := loan_0 h0
  have od := ordL_is ps
  have hb : ∀ o ∈ ordL ps, 0 ≤ uO ps o ∧ 0 ≤ pO ps o ∧ pO ps o ≤ 1099511627776 := fun o ho => by have := uO_bd hall (od.mem.1 ho); exact ⟨by omega, this.2.2⟩
  rw [(best_is hE).cost]
  have g0 := grf_nn (uO ps) (pO ps) (ordL ps) u (fun o ho => ⟨(hb o ho).1, (hb o ho).2.1⟩) (by omega)
  have g1 := grf_le (uO ps) (pO ps) (ordL ps) u
  have g2 := grc_up (uO ps) (pO ps) (ordL ps) u hb (by omega)
  exact ⟨g0, by omega⟩

theorem Try.infoOfferM : (Try.prog.info? 66).map (fun i => (i.zero, i.size, i.bytes)) = some (some (.agg #[.int .i64 0, .int .i64 0, .int .i64 0]), 3, 24) := by kernel_rfl
theorem info_partsM {o : Option TypeInfo} {z : Value} {a b : Nat} (h : o.map (fun i => (i.zero, i.size, i.bytes)) = some (some z, a, b)) : ∃ i, o = some i ∧ i.zero = some z ∧ i.size = a ∧ i.bytes = b := by
  cases o with
  | none => cases h
  | some i =>
    simp only [Option.map_some, Option.some.injEq, Prod.mk.injEq] at h
    exact ⟨i, rfl, h.1, h.2.1, h.2.2⟩
/-- the cells of triples, one by one -/
theorem newsP {w : World} {b off : Nat} {ps : List (Int × Int × Int)} (h : ∀ j, j < ps.length → PtAt w b (off + j * 3) (ps.getD j default)) : ∀ j u, (flatP ps)[j]? = some u → w.cell? ((⟨b, off, none⟩ : Addr).add j) = some u := by
  intro j u hu
  have hj : j < ps.length * 3 := by
    rw [← flatP_len]
    exact (List.getElem?_eq_some_iff.1 hu).1
  have hadd : (⟨b, off, none⟩ : Addr).add j = ⟨b, off + j, none⟩ := by unfold Addr.add; split <;> simp_all
  rw [hadd]
  obtain ⟨q, hq, hr⟩ : ∃ q, q < ps.length ∧ (j = q * 3 ∨ j = q * 3 + 1 ∨ j = q * 3 + 2) := ⟨j / 3, by omega, by omega⟩
  obtain ⟨e0, e1, e2⟩ := flatP_at ps q hq
  obtain ⟨c0, c1, c2⟩ := h q hq
  rcases hr with rfl | rfl | rfl
  · rw [e0] at hu; injection hu with hu; subst hu; exact c0
  · rw [e1] at hu; injection hu with hu; subst hu; rw [← Nat.add_assoc]; exact c1
  · rw [e2] at hu; injection hu with hu; subst hu; rw [← Nat.add_assoc]; exact c2
/-- a slice of nothing, in a block of its own -/
theorem own_none {w : World} {base B : Nat} {T : TypeId} (hb : base ≤ B) (h : Blk w B #[] T) : w.ownsRow base T 3 (.slice (some ⟨B, 0, none⟩) 0 0) 0 [] :=
  ⟨rfl, .inr ⟨B, 0, #[], rfl, hb, h, Nat.le_refl _, Nat.zero_le _, rfl, rfl⟩⟩
theorem lm_ka {w1 wa : World} {T : TypeId} (h : (w1.alloc (.cells #[] T)).drew.grownBy wa (Value.ownBlock (.slice (some ⟨w1.heap.size, 0, none⟩) 0 0))) : Hid (Kpt w1 wa) :=
  Below.grown (show Kpt w1 (w1.alloc (.cells #[] T)).drew from Below.drew ((Kpt.refl w1).alloc _)) h (by simp) (fun q e => by simp [Value.ownBlock] at e; omega)
theorem lm_ge {w1 : World} {gg : Nat} (h : Value.ownBlock (.slice (some ⟨w1.heap.size, 0, none⟩) 0 0) = some gg ∨ gg = w1.heap.size + 1) : Hid (w1.heap.size ≤ gg) := by
  unfold Hid
  rcases h with e | e
  · simp [Value.ownBlock] at e; omega
  · omega
theorem lm_kc {w1 wa wc : World} {T : TypeId} {cs : Array Value} {gg n cap1 : Nat} (ka : Kpt w1 wa) (ge : w1.heap.size ≤ gg) (h : (wa.alloc (.cells cs T)).grownBy wc (Value.ownBlock (.slice (some ⟨gg, 0, none⟩) n cap1))) : Hid (Kpt w1 wc) :=
  Below.grown (show Kpt w1 (wa.alloc (.cells cs T)) from ka.alloc _) h (by have := ka.size; simp; omega) (fun q e => by simp [Value.ownBlock] at e; omega)
theorem lm_ho {w : World} {base n : Nat} {T : TypeId} {v : Nat → Value} {xs : List Value} (h : w.ownsRow base T 3 (v (0 + n)) (0 + n) ([] ++ xs)) : Hid (w.ownsRow base T 3 (v n) n xs) := by
  rw [Nat.zero_add] at h; exact h
theorem lm_kaG {w1 W wa : World} {B n c : Nat} (hW : Kpt w1 W) (hB : w1.heap.size ≤ B) (h : W.grownBy wa (Value.ownBlock (.slice (some ⟨B, 0, none⟩) n c))) : Hid (Kpt w1 wa) :=
  Below.grown hW h hW.size (fun q e => by simp [Value.ownBlock] at e; omega)
theorem lm_geG {w1 : World} {B gg H : Nat} (hB : w1.heap.size ≤ B) (hH : w1.heap.size ≤ H) (h : Value.ownBlock (.slice (some ⟨B, 0, none⟩) 0 0) = some gg ∨ gg = H) : Hid (w1.heap.size ≤ gg) := by
  unfold Hid
  rcases h with e | e
  · simp [Value.ownBlock] at e; omega
  · omega
theorem lm_nb {W wa : World} {B g : Nat} {cs : Array Value} {T : TypeId} (h : Blk W g cs T) (hne : g ≠ B) (hg : W.grownBy wa (Value.ownBlock (.slice (some ⟨B, 0, none⟩) 0 0))) : Hid (Blk wa g cs T) := h.block (hg.block g h.lt (by simp [Value.ownBlock]; omega))
theorem lm_rd {w : World} {base n : Nat} {T : TypeId} {v : Value} {ps : List (Int × Int × Int)} {P U C : Int} (hn : n = ps.length) (ip : InP (ps ++ [(P, U, C)])) (h : w.ownsRow base T 3 v (n + 1) (flatP ps ++ [.int .i64 P, .int .i64 U, .int .i64 C])) : Hid (ReadsP w v (ps ++ [(P, U, C)])) :=
  OwnsT.reads (T := T) (base := base) (by unfold OwnsT; rw [List.length_append, ← hn, flatP_append]; exact h) ip

set_option maxRecDepth 100000 in
set_option maxHeartbeats 4000000 in
theorem lmore_ff (b off cap n : Nat) (ps : List (Int × Int × Int)) (hn : n = ps.length) (n0 : 0 < n) (n40 : n ≤ 40) (P U C u c d f k h : Int) (hu : 1 ≤ u ∧ u ≤ 1073741824) (hc : 0 ≤ c ∧ c ≤ 118059162071741130) (q1 : (f != 0) = false) (q2 : decide (d ≤ c + n) = true) (q3 : (h != 0) = false) (q4 : decide (c ≤ k) = true) (w : World)
    (hps : InP (ps ++ [(P, U, C)])) (hl0 : ∀ j, j < ps.length → PtAt w b (off + j * 3) (ps.getD j default))
    (B0 : ∀ w', Kpt (w.alloc (.cells #[.int .i64 P, .int .i64 U, .int .i64 C] 66)) w' → Calls Try.prog 27 #[.slice (some ⟨b, off, none⟩) n cap, .int .i64 u] w' fun e w'' => ∃ s, e = .returned (.tuple #[s, .int .i64 c, .int .i64 0]) ∧ Kpt w' w'')
    (D0 : ∀ w' v, ReadsP w' v (ps ++ [(P, U, C)]) → Calls Try.prog 27 #[v, .int .i64 u] w' fun e w'' => ∃ s, e = .returned (.tuple #[s, .int .i64 d, .int .i64 f]) ∧ Kpt w' w'')
    (E0 : ∀ w', Kpt (w.alloc (.cells #[.int .i64 P, .int .i64 U, .int .i64 C] 66)) w' → Calls Try.prog 27 #[.slice (some ⟨b, off, none⟩) n cap, .int .i64 (u + 1)] w' fun e w'' => ∃ s, e = .returned (.tuple #[s, .int .i64 k, .int .i64 h]) ∧ Kpt w' w'') : Calls Try.prog 11 #[.slice (some ⟨b, off, none⟩) n cap, .agg #[.int .i64 P, .int .i64 U, .int .i64 C], .int .i64 u] w fun x w' => x = .returned (.bool true) ∧ Kpt w w' := by
  have k0 : Kpt w (w.alloc (.cells #[.int .i64 P, .int .i64 U, .int .i64 C] 66)) := (Kpt.refl w).alloc _
  have B := Lib.hid B0
  have D := Lib.hid D0
  have E := Lib.hid E0
  have HL := Lib.hid hl0
  have IP := Lib.hid hps
  have K0 := Lib.hid (Kpt.refl (w.alloc (.cells #[.int .i64 P, .int .i64 U, .int .i64 C] 66)))
  have KW := Lib.hid k0
  have HN := Lib.hid hn
  clear B0 D0 E0 hl0 hps k0 hn
  go_enter Try.func11, Try.ntmps11
  go_wp2_with (first
    | (go_at_call 27; (with_reducible refine (B.out _ K0.out).mono ?_); rintro e wb ⟨s1, rfl, k1⟩; have K0 := Lib.hid (ktr K0.out k1); clear k1; clear B)
    | (go_at_call 34; (with_reducible refine (loanBegun _).mono ?_); rintro e w1 ⟨rfl, k1⟩; have K0 := Lib.hid (ktr K0.out k1); clear k1))
  have Y := (Blk.made w #[.int .i64 P, .int .i64 U, .int .i64 C] 66).kpt K0.out
  have z0 : w1.cell? ⟨w.heap.size, 0, none⟩ = some (.int .i64 P) := Y.cell 0
  have z1 : w1.cell? ⟨w.heap.size, 1, none⟩ = some (.int .i64 U) := Y.cell 1
  have z2 : w1.cell? ⟨w.heap.size, 2, none⟩ = some (.int .i64 C) := Y.cell 2
  have hlt : w.heap.size < w1.heap.size := Y.lt
  have LT := Lib.hid hlt
  clear Y hlt
  have ML : n + 1 ≤ maxLen := by unfold maxLen; omega
  have HL1 : Hid (∀ j, j < ps.length → PtAt w1 b (off + j * 3) (ps.getD j default)) := fun j hj => (HL.out j hj).kpt (ktr KW.out K0.out)
  obtain ⟨i0, hi0, hz0, hz1, hz2⟩ := info_partsM Try.infoOfferM
  have FL : Hid ((flatP ps).length = n * 3) := by rw [HN.out]; exact flatP_len ps
  go_region_held3 (fun w' => w'.cell? ⟨w.heap.size, 0, none⟩ = some (.int .i64 P) ∧ w'.cell? ⟨w.heap.size, 1, none⟩ = some (.int .i64 U) ∧ w'.cell? ⟨w.heap.size, 2, none⟩ = some (.int .i64 C))
    (first
      | go_keep
      | (go_split_ands
         refine ⟨?_, ?_, ?_⟩
         · (rw [hgrow.cell_far _ (by have := LT.out; (try have := ZA.out); simp; omega) (by have := LT.out; (try have := GE.out); simp [Value.ownBlock]; omega)]; assumption)
         · (rw [hgrow.cell_far _ (by have := LT.out; (try have := ZA.out); simp; omega) (by have := LT.out; (try have := GE.out); simp [Value.ownBlock]; omega)]; assumption)
         · (rw [hgrow.cell_far _ (by have := LT.out; (try have := ZA.out); simp; omega) (by have := LT.out; (try have := GE.out); simp [Value.ownBlock]; omega)]; assumption))
      | exact ⟨y0, y1, y2⟩)
    (first
      | (
         refine step_append_lies _ (by rfl) _ _ _ (by rfl) w1.heap.size 66 i0 _ 3 24 Try.underlying50 hi0 hz0 hz1 hz2 rfl (by omega) (.slice (some ⟨w1.heap.size, 0, none⟩) 0 0) 0 [] (by rfl) (own_none (Nat.le_refl _) (show Blk (w1.alloc (.cells #[] 66)).drew w1.heap.size #[] 66 from Blk.made w1 #[] 66))
            ⟨b, off, none⟩ n cap (flatP ps) (by rfl) FL.out (newsP fun j hj => (HL1.out j hj).kpt (show Kpt w1 (w1.alloc (.cells #[] 66)).drew from Below.drew ((Kpt.refl w1).alloc _))) (flatP_one ps)
            n0 (by omega) (by omega) (by simp) (w1.heap.size + 1) (by simp) ?_; intro gg cap1 wa hown hgrow hat hlt
         have KA := lm_ka hgrow
         have GE := lm_ge hat
         have ZA := Lib.hid KA.out.size
         have HO := lm_ho (v := fun n => .slice (some ⟨gg, 0, none⟩) n cap1) hown
         clear hown)
      | (
         refine step_append_lies _ (by rfl) _ _ _ (by rfl) w1.heap.size 66 i0 _ 3 24 Try.underlying50 hi0 hz0 hz1 hz2 rfl (by omega) (.slice (some ⟨gg, 0, none⟩) n cap1) n (flatP ps) (by first | rfl | exact congrArg (fun k => Value.slice (some ⟨gg, 0, none⟩) k cap1) (Nat.zero_add n)) (HO.out.alloc _)
            ⟨wa.heap.size, 0, none⟩ 1 1 [.int .i64 P, .int .i64 U, .int .i64 C] (by rfl) (by rfl) (World.news_of_block (cs := #[.int .i64 P, .int .i64 U, .int .i64 C]) (t := 66) (fr := (0, 0)) (heap_alloc_new wa _)) (by simp [Value.oneCell'])
            (by omega) ML (by omega) (by have := ZA.out; simp; omega) (wa.heap.size + 1) (by simp) ?_; intro gg2 cap2 wc hown hgrow hat hlt
         have KC := lm_kc KA.out GE.out hgrow
         have RD := lm_rd HN.out IP.out hown
         clear hown)
      | (
         refine step_append_lies _ (by rfl) _ _ _ (by rfl) w1.heap.size 66 i0 _ 3 24 Try.underlying50 hi0 hz0 hz1 hz2 rfl (by omega) (.slice (some ⟨w1.heap.size, 0, none⟩) 0 0) 0 [] (by rfl) (own_none (by omega) (show Blk ((w1.alloc (.cells #[] 66)).alloc (.cells #[.int .i64 P, .int .i64 U, .int .i64 C] 66)).drew w1.heap.size #[] 66 from (Blk.made w1 #[] 66).alloc _))
            ⟨b, off, none⟩ n cap (flatP ps) (by rfl) FL.out (newsP fun j hj => (HL1.out j hj).kpt (show Kpt w1 ((w1.alloc (.cells #[] 66)).alloc (.cells #[.int .i64 P, .int .i64 U, .int .i64 C] 66)).drew from Below.drew (((Kpt.refl w1).alloc _).alloc _))) (flatP_one ps)
            n0 (by omega) (by omega) (by simp; omega) (w1.heap.size + 2) (by simp) ?_; intro gg cap1 wa hown hgrow hat hlt
         have KA := lm_kaG (show Kpt w1 ((w1.alloc (.cells #[] 66)).alloc (.cells #[.int .i64 P, .int .i64 U, .int .i64 C] 66)).drew from Below.drew (((Kpt.refl w1).alloc _).alloc _)) (by omega) hgrow
         have GE := lm_geG (w1 := w1) (by omega) (by omega) hat
         have NB := lm_nb (g := w1.heap.size + 1) (show Blk ((w1.alloc (.cells #[] 66)).alloc (.cells #[.int .i64 P, .int .i64 U, .int .i64 C] 66)).drew (w1.heap.size + 1) #[.int .i64 P, .int .i64 U, .int .i64 C] 66 from (by have := Blk.made (w1.alloc (.cells #[] 66)) #[.int .i64 P, .int .i64 U, .int .i64 C] 66; simpa using this : Blk ((w1.alloc (.cells #[] 66)).alloc (.cells #[.int .i64 P, .int .i64 U, .int .i64 C] 66)) (w1.heap.size + 1) #[.int .i64 P, .int .i64 U, .int .i64 C] 66)) (by omega) hgrow
         have ZA := Lib.hid KA.out.size
         have HO := lm_ho (v := fun n => .slice (some ⟨gg, 0, none⟩) n cap1) hown
         clear hown)
      | (
         refine step_append_lies _ (by rfl) _ _ _ (by rfl) w1.heap.size 66 i0 _ 3 24 Try.underlying50 hi0 hz0 hz1 hz2 rfl (by omega) (.slice (some ⟨w1.heap.size + 1, 0, none⟩) 0 0) 0 [] (by rfl) (own_none (by omega) (show Blk ((w1.alloc (.cells #[.int .i64 P, .int .i64 U, .int .i64 C] 66)).alloc (.cells #[] 66)).drew (w1.heap.size + 1) #[] 66 from (by have := Blk.made (w1.alloc (.cells #[.int .i64 P, .int .i64 U, .int .i64 C] 66)) #[] 66; simpa using this : Blk ((w1.alloc (.cells #[.int .i64 P, .int .i64 U, .int .i64 C] 66)).alloc (.cells #[] 66)) (w1.heap.size + 1) #[] 66)))
            ⟨b, off, none⟩ n cap (flatP ps) (by rfl) FL.out (newsP fun j hj => (HL1.out j hj).kpt (show Kpt w1 ((w1.alloc (.cells #[.int .i64 P, .int .i64 U, .int .i64 C] 66)).alloc (.cells #[] 66)).drew from Below.drew (((Kpt.refl w1).alloc _).alloc _))) (flatP_one ps)
            n0 (by omega) (by omega) (by simp; omega) (w1.heap.size + 2) (by simp) ?_; intro gg cap1 wa hown hgrow hat hlt
         have KA := lm_kaG (show Kpt w1 ((w1.alloc (.cells #[.int .i64 P, .int .i64 U, .int .i64 C] 66)).alloc (.cells #[] 66)).drew from Below.drew (((Kpt.refl w1).alloc _).alloc _)) (by omega) hgrow
         have GE := lm_geG (w1 := w1) (by omega) (by omega) hat
         have NB := lm_nb (g := w1.heap.size) (show Blk ((w1.alloc (.cells #[.int .i64 P, .int .i64 U, .int .i64 C] 66)).alloc (.cells #[] 66)).drew (w1.heap.size) #[.int .i64 P, .int .i64 U, .int .i64 C] 66 from (Blk.made w1 #[.int .i64 P, .int .i64 U, .int .i64 C] 66).alloc _) (by omega) hgrow
         have ZA := Lib.hid KA.out.size
         have HO := lm_ho (v := fun n => .slice (some ⟨gg, 0, none⟩) n cap1) hown
         clear hown)
      | (
         refine step_append_lies _ (by rfl) _ _ _ (by rfl) w1.heap.size 66 i0 _ 3 24 Try.underlying50 hi0 hz0 hz1 hz2 rfl (by omega) (.slice (some ⟨gg, 0, none⟩) n cap1) n (flatP ps) (by first | rfl | exact congrArg (fun k => Value.slice (some ⟨gg, 0, none⟩) k cap1) (Nat.zero_add n)) HO.out
            ⟨w1.heap.size + 1, 0, none⟩ 1 1 [.int .i64 P, .int .i64 U, .int .i64 C] (by rfl) (by rfl) (World.news_of_block (cs := #[.int .i64 P, .int .i64 U, .int .i64 C]) (t := 66) (fr := (0, 0)) NB.out) (by simp [Value.oneCell'])
            (by omega) ML (by omega) ZA.out wa.heap.size (by rfl) ?_; intro gg2 cap2 wc hown hgrow hat hlt
         have KC := lm_kaG KA.out GE.out hgrow
         have RD := lm_rd HN.out IP.out hown
         clear hown)
      | (
         refine step_append_lies _ (by rfl) _ _ _ (by rfl) w1.heap.size 66 i0 _ 3 24 Try.underlying50 hi0 hz0 hz1 hz2 rfl (by omega) (.slice (some ⟨gg, 0, none⟩) n cap1) n (flatP ps) (by first | rfl | exact congrArg (fun k => Value.slice (some ⟨gg, 0, none⟩) k cap1) (Nat.zero_add n)) HO.out
            ⟨w1.heap.size, 0, none⟩ 1 1 [.int .i64 P, .int .i64 U, .int .i64 C] (by rfl) (by rfl) (World.news_of_block (cs := #[.int .i64 P, .int .i64 U, .int .i64 C]) (t := 66) (fr := (0, 0)) NB.out) (by simp [Value.oneCell'])
            (by omega) ML (by omega) ZA.out wa.heap.size (by rfl) ?_; intro gg2 cap2 wc hown hgrow hat hlt
         have KC := lm_kaG KA.out GE.out hgrow
         have RD := lm_rd HN.out IP.out hown
         clear hown)
      | (
         go_at_call 27; (with_reducible refine (D.out _ _ RD.out).mono ?_); rintro e wd ⟨s2, rfl, k1⟩; have KD := Lib.hid (ktr K0.out (ktr KC.out k1)); clear k1
         have y0 : wd.cell? ⟨w.heap.size, 0, none⟩ = some (.int .i64 P) := ((Blk.made w #[.int .i64 P, .int .i64 U, .int .i64 C] 66).kpt KD.out).cell 0
         have y1 : wd.cell? ⟨w.heap.size, 1, none⟩ = some (.int .i64 U) := ((Blk.made w #[.int .i64 P, .int .i64 U, .int .i64 C] 66).kpt KD.out).cell 1
         have y2 : wd.cell? ⟨w.heap.size, 2, none⟩ = some (.int .i64 C) := ((Blk.made w #[.int .i64 P, .int .i64 U, .int .i64 C] 66).kpt KD.out).cell 2))
  all_goals go_wp2_with (first
    | (go_at_call 27; (with_reducible refine (E.out _ KD.out).mono ?_); rintro e we ⟨s3, rfl, k1⟩; have KE := Lib.hid (ktr KD.out k1); clear k1))
  all_goals go_ret
  all_goals exact ⟨rfl, ktr KW.out KE.out⟩

set_option maxRecDepth 100000 in
set_option maxHeartbeats 4000000 in
theorem lmore_ft (b off cap n : Nat) (ps : List (Int × Int × Int)) (hn : n = ps.length) (n0 : 0 < n) (n40 : n ≤ 40) (P U C u c d f k h : Int) (hu : 1 ≤ u ∧ u ≤ 1073741824) (hc : 0 ≤ c ∧ c ≤ 118059162071741130) (q1 : (f != 0) = false) (q2 : decide (d ≤ c + n) = true) (q3 : (h != 0) = true) (w : World)
    (hps : InP (ps ++ [(P, U, C)])) (hl0 : ∀ j, j < ps.length → PtAt w b (off + j * 3) (ps.getD j default))
    (B0 : ∀ w', Kpt (w.alloc (.cells #[.int .i64 P, .int .i64 U, .int .i64 C] 66)) w' → Calls Try.prog 27 #[.slice (some ⟨b, off, none⟩) n cap, .int .i64 u] w' fun e w'' => ∃ s, e = .returned (.tuple #[s, .int .i64 c, .int .i64 0]) ∧ Kpt w' w'')
    (D0 : ∀ w' v, ReadsP w' v (ps ++ [(P, U, C)]) → Calls Try.prog 27 #[v, .int .i64 u] w' fun e w'' => ∃ s, e = .returned (.tuple #[s, .int .i64 d, .int .i64 f]) ∧ Kpt w' w'')
    (E0 : ∀ w', Kpt (w.alloc (.cells #[.int .i64 P, .int .i64 U, .int .i64 C] 66)) w' → Calls Try.prog 27 #[.slice (some ⟨b, off, none⟩) n cap, .int .i64 (u + 1)] w' fun e w'' => ∃ s, e = .returned (.tuple #[s, .int .i64 k, .int .i64 h]) ∧ Kpt w' w'') : Calls Try.prog 11 #[.slice (some ⟨b, off, none⟩) n cap, .agg #[.int .i64 P, .int .i64 U, .int .i64 C], .int .i64 u] w fun x w' => x = .returned (.bool true) ∧ Kpt w w' := by
  have k0 : Kpt w (w.alloc (.cells #[.int .i64 P, .int .i64 U, .int .i64 C] 66)) := (Kpt.refl w).alloc _
  have B := Lib.hid B0
  have D := Lib.hid D0
  have E := Lib.hid E0
  have HL := Lib.hid hl0
  have IP := Lib.hid hps
  have K0 := Lib.hid (Kpt.refl (w.alloc (.cells #[.int .i64 P, .int .i64 U, .int .i64 C] 66)))
  have KW := Lib.hid k0
  have HN := Lib.hid hn
  clear B0 D0 E0 hl0 hps k0 hn
  go_enter Try.func11, Try.ntmps11
  go_wp2_with (first
    | (go_at_call 27; (with_reducible refine (B.out _ K0.out).mono ?_); rintro e wb ⟨s1, rfl, k1⟩; have K0 := Lib.hid (ktr K0.out k1); clear k1; clear B)
    | (go_at_call 34; (with_reducible refine (loanBegun _).mono ?_); rintro e w1 ⟨rfl, k1⟩; have K0 := Lib.hid (ktr K0.out k1); clear k1))
  have Y := (Blk.made w #[.int .i64 P, .int .i64 U, .int .i64 C] 66).kpt K0.out
  have z0 : w1.cell? ⟨w.heap.size, 0, none⟩ = some (.int .i64 P) := Y.cell 0
  have z1 : w1.cell? ⟨w.heap.size, 1, none⟩ = some (.int .i64 U) := Y.cell 1
  have z2 : w1.cell? ⟨w.heap.size, 2, none⟩ = some (.int .i64 C) := Y.cell 2
  have hlt : w.heap.size < w1.heap.size := Y.lt
  have LT := Lib.hid hlt
  clear Y hlt
  have ML : n + 1 ≤ maxLen := by unfold maxLen; omega
  have HL1 : Hid (∀ j, j < ps.length → PtAt w1 b (off + j * 3) (ps.getD j default)) := fun j hj => (HL.out j hj).kpt (ktr KW.out K0.out)
  obtain ⟨i0, hi0, hz0, hz1, hz2⟩ := info_partsM Try.infoOfferM
  have FL : Hid ((flatP ps).length = n * 3) := by rw [HN.out]; exact flatP_len ps
  go_region_held3 (fun w' => w'.cell? ⟨w.heap.size, 0, none⟩ = some (.int .i64 P) ∧ w'.cell? ⟨w.heap.size, 1, none⟩ = some (.int .i64 U) ∧ w'.cell? ⟨w.heap.size, 2, none⟩ = some (.int .i64 C))
    (first
      | go_keep
      | (go_split_ands
         refine ⟨?_, ?_, ?_⟩
         · (rw [hgrow.cell_far _ (by have := LT.out; (try have := ZA.out); simp; omega) (by have := LT.out; (try have := GE.out); simp [Value.ownBlock]; omega)]; assumption)
         · (rw [hgrow.cell_far _ (by have := LT.out; (try have := ZA.out); simp; omega) (by have := LT.out; (try have := GE.out); simp [Value.ownBlock]; omega)]; assumption)
         · (rw [hgrow.cell_far _ (by have := LT.out; (try have := ZA.out); simp; omega) (by have := LT.out; (try have := GE.out); simp [Value.ownBlock]; omega)]; assumption))
      | exact ⟨y0, y1, y2⟩)
    (first
      | (
         refine step_append_lies _ (by rfl) _ _ _ (by rfl) w1.heap.size 66 i0 _ 3 24 Try.underlying50 hi0 hz0 hz1 hz2 rfl (by omega) (.slice (some ⟨w1.heap.size, 0, none⟩) 0 0) 0 [] (by rfl) (own_none (Nat.le_refl _) (show Blk (w1.alloc (.cells #[] 66)).drew w1.heap.size #[] 66 from Blk.made w1 #[] 66))
            ⟨b, off, none⟩ n cap (flatP ps) (by rfl) FL.out (newsP fun j hj => (HL1.out j hj).kpt (show Kpt w1 (w1.alloc (.cells #[] 66)).drew from Below.drew ((Kpt.refl w1).alloc _))) (flatP_one ps)
            n0 (by omega) (by omega) (by simp) (w1.heap.size + 1) (by simp) ?_; intro gg cap1 wa hown hgrow hat hlt
         have KA := lm_ka hgrow
         have GE := lm_ge hat
         have ZA := Lib.hid KA.out.size
         have HO := lm_ho (v := fun n => .slice (some ⟨gg, 0, none⟩) n cap1) hown
         clear hown)
      | (
         refine step_append_lies _ (by rfl) _ _ _ (by rfl) w1.heap.size 66 i0 _ 3 24 Try.underlying50 hi0 hz0 hz1 hz2 rfl (by omega) (.slice (some ⟨gg, 0, none⟩) n cap1) n (flatP ps) (by first | rfl | exact congrArg (fun k => Value.slice (some ⟨gg, 0, none⟩) k cap1) (Nat.zero_add n)) (HO.out.alloc _)
            ⟨wa.heap.size, 0, none⟩ 1 1 [.int .i64 P, .int .i64 U, .int .i64 C] (by rfl) (by rfl) (World.news_of_block (cs := #[.int .i64 P, .int .i64 U, .int .i64 C]) (t := 66) (fr := (0, 0)) (heap_alloc_new wa _)) (by simp [Value.oneCell'])
            (by omega) ML (by omega) (by have := ZA.out; simp; omega) (wa.heap.size + 1) (by simp) ?_; intro gg2 cap2 wc hown hgrow hat hlt
         have KC := lm_kc KA.out GE.out hgrow
         have RD := lm_rd HN.out IP.out hown
         clear hown)
      | (
         refine step_append_lies _ (by rfl) _ _ _ (by rfl) w1.heap.size 66 i0 _ 3 24 Try.underlying50 hi0 hz0 hz1 hz2 rfl (by omega) (.slice (some ⟨w1.heap.size, 0, none⟩) 0 0) 0 [] (by rfl) (own_none (by omega) (show Blk ((w1.alloc (.cells #[] 66)).alloc (.cells #[.int .i64 P, .int .i64 U, .int .i64 C] 66)).drew w1.heap.size #[] 66 from (Blk.made w1 #[] 66).alloc _))
            ⟨b, off, none⟩ n cap (flatP ps) (by rfl) FL.out (newsP fun j hj => (HL1.out j hj).kpt (show Kpt w1 ((w1.alloc (.cells #[] 66)).alloc (.cells #[.int .i64 P, .int .i64 U, .int .i64 C] 66)).drew from Below.drew (((Kpt.refl w1).alloc _).alloc _))) (flatP_one ps)
            n0 (by omega) (by omega) (by simp; omega) (w1.heap.size + 2) (by simp) ?_; intro gg cap1 wa hown hgrow hat hlt
         have KA := lm_kaG (show Kpt w1 ((w1.alloc (.cells #[] 66)).alloc (.cells #[.int .i64 P, .int .i64 U, .int .i64 C] 66)).drew from Below.drew (((Kpt.refl w1).alloc _).alloc _)) (by omega) hgrow
         have GE := lm_geG (w1 := w1) (by omega) (by omega) hat
         have NB := lm_nb (g := w1.heap.size + 1) (show Blk ((w1.alloc (.cells #[] 66)).alloc (.cells #[.int .i64 P, .int .i64 U, .int .i64 C] 66)).drew (w1.heap.size + 1) #[.int .i64 P, .int .i64 U, .int .i64 C] 66 from (by have := Blk.made (w1.alloc (.cells #[] 66)) #[.int .i64 P, .int .i64 U, .int .i64 C] 66; simpa using this : Blk ((w1.alloc (.cells #[] 66)).alloc (.cells #[.int .i64 P, .int .i64 U, .int .i64 C] 66)) (w1.heap.size + 1) #[.int .i64 P, .int .i64 U, .int .i64 C] 66)) (by omega) hgrow
         have ZA := Lib.hid KA.out.size
         have HO := lm_ho (v := fun n => .slice (some ⟨gg, 0, none⟩) n cap1) hown
         clear hown)
      | (
         refine step_append_lies _ (by rfl) _ _ _ (by rfl) w1.heap.size 66 i0 _ 3 24 Try.underlying50 hi0 hz0 hz1 hz2 rfl (by omega) (.slice (some ⟨w1.heap.size + 1, 0, none⟩) 0 0) 0 [] (by rfl) (own_none (by omega) (show Blk ((w1.alloc (.cells #[.int .i64 P, .int .i64 U, .int .i64 C] 66)).alloc (.cells #[] 66)).drew (w1.heap.size + 1) #[] 66 from (by have := Blk.made (w1.alloc (.cells #[.int .i64 P, .int .i64 U, .int .i64 C] 66)) #[] 66; simpa using this : Blk ((w1.alloc (.cells #[.int .i64 P, .int .i64 U, .int .i64 C] 66)).alloc (.cells #[] 66)) (w1.heap.size + 1) #[] 66)))
            ⟨b, off, none⟩ n cap (flatP ps) (by rfl) FL.out (newsP fun j hj => (HL1.out j hj).kpt (show Kpt w1 ((w1.alloc (.cells #[.int .i64 P, .int .i64 U, .int .i64 C] 66)).alloc (.cells #[] 66)).drew from Below.drew (((Kpt.refl w1).alloc _).alloc _))) (flatP_one ps)
            n0 (by omega) (by omega) (by simp; omega) (w1.heap.size + 2) (by simp) ?_; intro gg cap1 wa hown hgrow hat hlt
         have KA := lm_kaG (show Kpt w1 ((w1.alloc (.cells #[.int .i64 P, .int .i64 U, .int .i64 C] 66)).alloc (.cells #[] 66)).drew from Below.drew (((Kpt.refl w1).alloc _).alloc _)) (by omega) hgrow
         have GE := lm_geG (w1 := w1) (by omega) (by omega) hat
         have NB := lm_nb (g := w1.heap.size) (show Blk ((w1.alloc (.cells #[.int .i64 P, .int .i64 U, .int .i64 C] 66)).alloc (.cells #[] 66)).drew (w1.heap.size) #[.int .i64 P, .int .i64 U, .int .i64 C] 66 from (Blk.made w1 #[.int .i64 P, .int .i64 U, .int .i64 C] 66).alloc _) (by omega) hgrow
         have ZA := Lib.hid KA.out.size
         have HO := lm_ho (v := fun n => .slice (some ⟨gg, 0, none⟩) n cap1) hown
         clear hown)
      | (
         refine step_append_lies _ (by rfl) _ _ _ (by rfl) w1.heap.size 66 i0 _ 3 24 Try.underlying50 hi0 hz0 hz1 hz2 rfl (by omega) (.slice (some ⟨gg, 0, none⟩) n cap1) n (flatP ps) (by first | rfl | exact congrArg (fun k => Value.slice (some ⟨gg, 0, none⟩) k cap1) (Nat.zero_add n)) HO.out
            ⟨w1.heap.size + 1, 0, none⟩ 1 1 [.int .i64 P, .int .i64 U, .int .i64 C] (by rfl) (by rfl) (World.news_of_block (cs := #[.int .i64 P, .int .i64 U, .int .i64 C]) (t := 66) (fr := (0, 0)) NB.out) (by simp [Value.oneCell'])
            (by omega) ML (by omega) ZA.out wa.heap.size (by rfl) ?_; intro gg2 cap2 wc hown hgrow hat hlt
         have KC := lm_kaG KA.out GE.out hgrow
         have RD := lm_rd HN.out IP.out hown
         clear hown)
      | (
         refine step_append_lies _ (by rfl) _ _ _ (by rfl) w1.heap.size 66 i0 _ 3 24 Try.underlying50 hi0 hz0 hz1 hz2 rfl (by omega) (.slice (some ⟨gg, 0, none⟩) n cap1) n (flatP ps) (by first | rfl | exact congrArg (fun k => Value.slice (some ⟨gg, 0, none⟩) k cap1) (Nat.zero_add n)) HO.out
            ⟨w1.heap.size, 0, none⟩ 1 1 [.int .i64 P, .int .i64 U, .int .i64 C] (by rfl) (by rfl) (World.news_of_block (cs := #[.int .i64 P, .int .i64 U, .int .i64 C]) (t := 66) (fr := (0, 0)) NB.out) (by simp [Value.oneCell'])
            (by omega) ML (by omega) ZA.out wa.heap.size (by rfl) ?_; intro gg2 cap2 wc hown hgrow hat hlt
         have KC := lm_kaG KA.out GE.out hgrow
         have RD := lm_rd HN.out IP.out hown
         clear hown)
      | (
         go_at_call 27; (with_reducible refine (D.out _ _ RD.out).mono ?_); rintro e wd ⟨s2, rfl, k1⟩; have KD := Lib.hid (ktr K0.out (ktr KC.out k1)); clear k1
         have y0 : wd.cell? ⟨w.heap.size, 0, none⟩ = some (.int .i64 P) := ((Blk.made w #[.int .i64 P, .int .i64 U, .int .i64 C] 66).kpt KD.out).cell 0
         have y1 : wd.cell? ⟨w.heap.size, 1, none⟩ = some (.int .i64 U) := ((Blk.made w #[.int .i64 P, .int .i64 U, .int .i64 C] 66).kpt KD.out).cell 1
         have y2 : wd.cell? ⟨w.heap.size, 2, none⟩ = some (.int .i64 C) := ((Blk.made w #[.int .i64 P, .int .i64 U, .int .i64 C] 66).kpt KD.out).cell 2))
  all_goals go_wp2_with (first
    | (go_at_call 27; (with_reducible refine (E.out _ KD.out).mono ?_); rintro e we ⟨s3, rfl, k1⟩; have KE := Lib.hid (ktr KD.out k1); clear k1))
  all_goals go_ret
  all_goals exact ⟨rfl, ktr KW.out KE.out⟩

set_option maxRecDepth 100000 in
set_option maxHeartbeats 4000000 in
theorem lmore_tf (b off cap n : Nat) (ps : List (Int × Int × Int)) (hn : n = ps.length) (n0 : 0 < n) (n40 : n ≤ 40) (P U C u c d f k h : Int) (hu : 1 ≤ u ∧ u ≤ 1073741824) (hc : 0 ≤ c ∧ c ≤ 118059162071741130) (q1 : (f != 0) = true) (q3 : (h != 0) = false) (q4 : decide (c ≤ k) = true) (w : World)
    (hps : InP (ps ++ [(P, U, C)])) (hl0 : ∀ j, j < ps.length → PtAt w b (off + j * 3) (ps.getD j default))
    (B0 : ∀ w', Kpt (w.alloc (.cells #[.int .i64 P, .int .i64 U, .int .i64 C] 66)) w' → Calls Try.prog 27 #[.slice (some ⟨b, off, none⟩) n cap, .int .i64 u] w' fun e w'' => ∃ s, e = .returned (.tuple #[s, .int .i64 c, .int .i64 0]) ∧ Kpt w' w'')
    (D0 : ∀ w' v, ReadsP w' v (ps ++ [(P, U, C)]) → Calls Try.prog 27 #[v, .int .i64 u] w' fun e w'' => ∃ s, e = .returned (.tuple #[s, .int .i64 d, .int .i64 f]) ∧ Kpt w' w'')
    (E0 : ∀ w', Kpt (w.alloc (.cells #[.int .i64 P, .int .i64 U, .int .i64 C] 66)) w' → Calls Try.prog 27 #[.slice (some ⟨b, off, none⟩) n cap, .int .i64 (u + 1)] w' fun e w'' => ∃ s, e = .returned (.tuple #[s, .int .i64 k, .int .i64 h]) ∧ Kpt w' w'') : Calls Try.prog 11 #[.slice (some ⟨b, off, none⟩) n cap, .agg #[.int .i64 P, .int .i64 U, .int .i64 C], .int .i64 u] w fun x w' => x = .returned (.bool true) ∧ Kpt w w' := by
  have k0 : Kpt w (w.alloc (.cells #[.int .i64 P, .int .i64 U, .int .i64 C] 66)) := (Kpt.refl w).alloc _
  have B := Lib.hid B0
  have D := Lib.hid D0
  have E := Lib.hid E0
  have HL := Lib.hid hl0
  have IP := Lib.hid hps
  have K0 := Lib.hid (Kpt.refl (w.alloc (.cells #[.int .i64 P, .int .i64 U, .int .i64 C] 66)))
  have KW := Lib.hid k0
  have HN := Lib.hid hn
  clear B0 D0 E0 hl0 hps k0 hn
  go_enter Try.func11, Try.ntmps11
  go_wp2_with (first
    | (go_at_call 27; (with_reducible refine (B.out _ K0.out).mono ?_); rintro e wb ⟨s1, rfl, k1⟩; have K0 := Lib.hid (ktr K0.out k1); clear k1; clear B)
    | (go_at_call 34; (with_reducible refine (loanBegun _).mono ?_); rintro e w1 ⟨rfl, k1⟩; have K0 := Lib.hid (ktr K0.out k1); clear k1))
  have Y := (Blk.made w #[.int .i64 P, .int .i64 U, .int .i64 C] 66).kpt K0.out
  have z0 : w1.cell? ⟨w.heap.size, 0, none⟩ = some (.int .i64 P) := Y.cell 0
  have z1 : w1.cell? ⟨w.heap.size, 1, none⟩ = some (.int .i64 U) := Y.cell 1
  have z2 : w1.cell? ⟨w.heap.size, 2, none⟩ = some (.int .i64 C) := Y.cell 2
  have hlt : w.heap.size < w1.heap.size := Y.lt
  have LT := Lib.hid hlt
  clear Y hlt
  have ML : n + 1 ≤ maxLen := by unfold maxLen; omega
  have HL1 : Hid (∀ j, j < ps.length → PtAt w1 b (off + j * 3) (ps.getD j default)) := fun j hj => (HL.out j hj).kpt (ktr KW.out K0.out)
  obtain ⟨i0, hi0, hz0, hz1, hz2⟩ := info_partsM Try.infoOfferM
  have FL : Hid ((flatP ps).length = n * 3) := by rw [HN.out]; exact flatP_len ps
  go_region_held3 (fun w' => w'.cell? ⟨w.heap.size, 0, none⟩ = some (.int .i64 P) ∧ w'.cell? ⟨w.heap.size, 1, none⟩ = some (.int .i64 U) ∧ w'.cell? ⟨w.heap.size, 2, none⟩ = some (.int .i64 C))
    (first
      | go_keep
      | (go_split_ands
         refine ⟨?_, ?_, ?_⟩
         · (rw [hgrow.cell_far _ (by have := LT.out; (try have := ZA.out); simp; omega) (by have := LT.out; (try have := GE.out); simp [Value.ownBlock]; omega)]; assumption)
         · (rw [hgrow.cell_far _ (by have := LT.out; (try have := ZA.out); simp; omega) (by have := LT.out; (try have := GE.out); simp [Value.ownBlock]; omega)]; assumption)
         · (rw [hgrow.cell_far _ (by have := LT.out; (try have := ZA.out); simp; omega) (by have := LT.out; (try have := GE.out); simp [Value.ownBlock]; omega)]; assumption))
      | exact ⟨y0, y1, y2⟩)
    (first
      | (
         refine step_append_lies _ (by rfl) _ _ _ (by rfl) w1.heap.size 66 i0 _ 3 24 Try.underlying50 hi0 hz0 hz1 hz2 rfl (by omega) (.slice (some ⟨w1.heap.size, 0, none⟩) 0 0) 0 [] (by rfl) (own_none (Nat.le_refl _) (show Blk (w1.alloc (.cells #[] 66)).drew w1.heap.size #[] 66 from Blk.made w1 #[] 66))
            ⟨b, off, none⟩ n cap (flatP ps) (by rfl) FL.out (newsP fun j hj => (HL1.out j hj).kpt (show Kpt w1 (w1.alloc (.cells #[] 66)).drew from Below.drew ((Kpt.refl w1).alloc _))) (flatP_one ps)
            n0 (by omega) (by omega) (by simp) (w1.heap.size + 1) (by simp) ?_; intro gg cap1 wa hown hgrow hat hlt
         have KA := lm_ka hgrow
         have GE := lm_ge hat
         have ZA := Lib.hid KA.out.size
         have HO := lm_ho (v := fun n => .slice (some ⟨gg, 0, none⟩) n cap1) hown
         clear hown)
      | (
         refine step_append_lies _ (by rfl) _ _ _ (by rfl) w1.heap.size 66 i0 _ 3 24 Try.underlying50 hi0 hz0 hz1 hz2 rfl (by omega) (.slice (some ⟨gg, 0, none⟩) n cap1) n (flatP ps) (by first | rfl | exact congrArg (fun k => Value.slice (some ⟨gg, 0, none⟩) k cap1) (Nat.zero_add n)) (HO.out.alloc _)
            ⟨wa.heap.size, 0, none⟩ 1 1 [.int .i64 P, .int .i64 U, .int .i64 C] (by rfl) (by rfl) (World.news_of_block (cs := #[.int .i64 P, .int .i64 U, .int .i64 C]) (t := 66) (fr := (0, 0)) (heap_alloc_new wa _)) (by simp [Value.oneCell'])
            (by omega) ML (by omega) (by have := ZA.out; simp; omega) (wa.heap.size + 1) (by simp) ?_; intro gg2 cap2 wc hown hgrow hat hlt
         have KC := lm_kc KA.out GE.out hgrow
         have RD := lm_rd HN.out IP.out hown
         clear hown)
      | (
         refine step_append_lies _ (by rfl) _ _ _ (by rfl) w1.heap.size 66 i0 _ 3 24 Try.underlying50 hi0 hz0 hz1 hz2 rfl (by omega) (.slice (some ⟨w1.heap.size, 0, none⟩) 0 0) 0 [] (by rfl) (own_none (by omega) (show Blk ((w1.alloc (.cells #[] 66)).alloc (.cells #[.int .i64 P, .int .i64 U, .int .i64 C] 66)).drew w1.heap.size #[] 66 from (Blk.made w1 #[] 66).alloc _))
            ⟨b, off, none⟩ n cap (flatP ps) (by rfl) FL.out (newsP fun j hj => (HL1.out j hj).kpt (show Kpt w1 ((w1.alloc (.cells #[] 66)).alloc (.cells #[.int .i64 P, .int .i64 U, .int .i64 C] 66)).drew from Below.drew (((Kpt.refl w1).alloc _).alloc _))) (flatP_one ps)
            n0 (by omega) (by omega) (by simp; omega) (w1.heap.size + 2) (by simp) ?_; intro gg cap1 wa hown hgrow hat hlt
         have KA := lm_kaG (show Kpt w1 ((w1.alloc (.cells #[] 66)).alloc (.cells #[.int .i64 P, .int .i64 U, .int .i64 C] 66)).drew from Below.drew (((Kpt.refl w1).alloc _).alloc _)) (by omega) hgrow
         have GE := lm_geG (w1 := w1) (by omega) (by omega) hat
         have NB := lm_nb (g := w1.heap.size + 1) (show Blk ((w1.alloc (.cells #[] 66)).alloc (.cells #[.int .i64 P, .int .i64 U, .int .i64 C] 66)).drew (w1.heap.size + 1) #[.int .i64 P, .int .i64 U, .int .i64 C] 66 from (by have := Blk.made (w1.alloc (.cells #[] 66)) #[.int .i64 P, .int .i64 U, .int .i64 C] 66; simpa using this : Blk ((w1.alloc (.cells #[] 66)).alloc (.cells #[.int .i64 P, .int .i64 U, .int .i64 C] 66)) (w1.heap.size + 1) #[.int .i64 P, .int .i64 U, .int .i64 C] 66)) (by omega) hgrow
         have ZA := Lib.hid KA.out.size
         have HO := lm_ho (v := fun n => .slice (some ⟨gg, 0, none⟩) n cap1) hown
         clear hown)
      | (
         refine step_append_lies _ (by rfl) _ _ _ (by rfl) w1.heap.size 66 i0 _ 3 24 Try.underlying50 hi0 hz0 hz1 hz2 rfl (by omega) (.slice (some ⟨w1.heap.size + 1, 0, none⟩) 0 0) 0 [] (by rfl) (own_none (by omega) (show Blk ((w1.alloc (.cells #[.int .i64 P, .int .i64 U, .int .i64 C] 66)).alloc (.cells #[] 66)).drew (w1.heap.size + 1) #[] 66 from (by have := Blk.made (w1.alloc (.cells #[.int .i64 P, .int .i64 U, .int .i64 C] 66)) #[] 66; simpa using this : Blk ((w1.alloc (.cells #[.int .i64 P, .int .i64 U, .int .i64 C] 66)).alloc (.cells #[] 66)) (w1.heap.size + 1) #[] 66)))
            ⟨b, off, none⟩ n cap (flatP ps) (by rfl) FL.out (newsP fun j hj => (HL1.out j hj).kpt (show Kpt w1 ((w1.alloc (.cells #[.int .i64 P, .int .i64 U, .int .i64 C] 66)).alloc (.cells #[] 66)).drew from Below.drew (((Kpt.refl w1).alloc _).alloc _))) (flatP_one ps)
            n0 (by omega) (by omega) (by simp; omega) (w1.heap.size + 2) (by simp) ?_; intro gg cap1 wa hown hgrow hat hlt
         have KA := lm_kaG (show Kpt w1 ((w1.alloc (.cells #[.int .i64 P, .int .i64 U, .int .i64 C] 66)).alloc (.cells #[] 66)).drew from Below.drew (((Kpt.refl w1).alloc _).alloc _)) (by omega) hgrow
         have GE := lm_geG (w1 := w1) (by omega) (by omega) hat
         have NB := lm_nb (g := w1.heap.size) (show Blk ((w1.alloc (.cells #[.int .i64 P, .int .i64 U, .int .i64 C] 66)).alloc (.cells #[] 66)).drew (w1.heap.size) #[.int .i64 P, .int .i64 U, .int .i64 C] 66 from (Blk.made w1 #[.int .i64 P, .int .i64 U, .int .i64 C] 66).alloc _) (by omega) hgrow
         have ZA := Lib.hid KA.out.size
         have HO := lm_ho (v := fun n => .slice (some ⟨gg, 0, none⟩) n cap1) hown
         clear hown)
      | (
         refine step_append_lies _ (by rfl) _ _ _ (by rfl) w1.heap.size 66 i0 _ 3 24 Try.underlying50 hi0 hz0 hz1 hz2 rfl (by omega) (.slice (some ⟨gg, 0, none⟩) n cap1) n (flatP ps) (by first | rfl | exact congrArg (fun k => Value.slice (some ⟨gg, 0, none⟩) k cap1) (Nat.zero_add n)) HO.out
            ⟨w1.heap.size + 1, 0, none⟩ 1 1 [.int .i64 P, .int .i64 U, .int .i64 C] (by rfl) (by rfl) (World.news_of_block (cs := #[.int .i64 P, .int .i64 U, .int .i64 C]) (t := 66) (fr := (0, 0)) NB.out) (by simp [Value.oneCell'])
            (by omega) ML (by omega) ZA.out wa.heap.size (by rfl) ?_; intro gg2 cap2 wc hown hgrow hat hlt
         have KC := lm_kaG KA.out GE.out hgrow
         have RD := lm_rd HN.out IP.out hown
         clear hown)
      | (
         refine step_append_lies _ (by rfl) _ _ _ (by rfl) w1.heap.size 66 i0 _ 3 24 Try.underlying50 hi0 hz0 hz1 hz2 rfl (by omega) (.slice (some ⟨gg, 0, none⟩) n cap1) n (flatP ps) (by first | rfl | exact congrArg (fun k => Value.slice (some ⟨gg, 0, none⟩) k cap1) (Nat.zero_add n)) HO.out
            ⟨w1.heap.size, 0, none⟩ 1 1 [.int .i64 P, .int .i64 U, .int .i64 C] (by rfl) (by rfl) (World.news_of_block (cs := #[.int .i64 P, .int .i64 U, .int .i64 C]) (t := 66) (fr := (0, 0)) NB.out) (by simp [Value.oneCell'])
            (by omega) ML (by omega) ZA.out wa.heap.size (by rfl) ?_; intro gg2 cap2 wc hown hgrow hat hlt
         have KC := lm_kaG KA.out GE.out hgrow
         have RD := lm_rd HN.out IP.out hown
         clear hown)
      | (
         go_at_call 27; (with_reducible refine (D.out _ _ RD.out).mono ?_); rintro e wd ⟨s2, rfl, k1⟩; have KD := Lib.hid (ktr K0.out (ktr KC.out k1)); clear k1
         have y0 : wd.cell? ⟨w.heap.size, 0, none⟩ = some (.int .i64 P) := ((Blk.made w #[.int .i64 P, .int .i64 U, .int .i64 C] 66).kpt KD.out).cell 0
         have y1 : wd.cell? ⟨w.heap.size, 1, none⟩ = some (.int .i64 U) := ((Blk.made w #[.int .i64 P, .int .i64 U, .int .i64 C] 66).kpt KD.out).cell 1
         have y2 : wd.cell? ⟨w.heap.size, 2, none⟩ = some (.int .i64 C) := ((Blk.made w #[.int .i64 P, .int .i64 U, .int .i64 C] 66).kpt KD.out).cell 2))
  all_goals go_wp2_with (first
    | (go_at_call 27; (with_reducible refine (E.out _ KD.out).mono ?_); rintro e we ⟨s3, rfl, k1⟩; have KE := Lib.hid (ktr KD.out k1); clear k1))
  all_goals go_ret
  all_goals exact ⟨rfl, ktr KW.out KE.out⟩

set_option maxRecDepth 100000 in
set_option maxHeartbeats 4000000 in
theorem lmore_tt (b off cap n : Nat) (ps : List (Int × Int × Int)) (hn : n = ps.length) (n0 : 0 < n) (n40 : n ≤ 40) (P U C u c d f k h : Int) (hu : 1 ≤ u ∧ u ≤ 1073741824) (hc : 0 ≤ c ∧ c ≤ 118059162071741130) (q1 : (f != 0) = true) (q3 : (h != 0) = true) (w : World)
    (hps : InP (ps ++ [(P, U, C)])) (hl0 : ∀ j, j < ps.length → PtAt w b (off + j * 3) (ps.getD j default))
    (B0 : ∀ w', Kpt (w.alloc (.cells #[.int .i64 P, .int .i64 U, .int .i64 C] 66)) w' → Calls Try.prog 27 #[.slice (some ⟨b, off, none⟩) n cap, .int .i64 u] w' fun e w'' => ∃ s, e = .returned (.tuple #[s, .int .i64 c, .int .i64 0]) ∧ Kpt w' w'')
    (D0 : ∀ w' v, ReadsP w' v (ps ++ [(P, U, C)]) → Calls Try.prog 27 #[v, .int .i64 u] w' fun e w'' => ∃ s, e = .returned (.tuple #[s, .int .i64 d, .int .i64 f]) ∧ Kpt w' w'')
    (E0 : ∀ w', Kpt (w.alloc (.cells #[.int .i64 P, .int .i64 U, .int .i64 C] 66)) w' → Calls Try.prog 27 #[.slice (some ⟨b, off, none⟩) n cap, .int .i64 (u + 1)] w' fun e w'' => ∃ s, e = .returned (.tuple #[s, .int .i64 k, .int .i64 h]) ∧ Kpt w' w'') : Calls Try.prog 11 #[.slice (some ⟨b, off, none⟩) n cap, .agg #[.int .i64 P, .int .i64 U, .int .i64 C], .int .i64 u] w fun x w' => x = .returned (.bool true) ∧ Kpt w w' := by
  have k0 : Kpt w (w.alloc (.cells #[.int .i64 P, .int .i64 U, .int .i64 C] 66)) := (Kpt.refl w).alloc _
  have B := Lib.hid B0
  have D := Lib.hid D0
  have E := Lib.hid E0
  have HL := Lib.hid hl0
  have IP := Lib.hid hps
  have K0 := Lib.hid (Kpt.refl (w.alloc (.cells #[.int .i64 P, .int .i64 U, .int .i64 C] 66)))
  have KW := Lib.hid k0
  have HN := Lib.hid hn
  clear B0 D0 E0 hl0 hps k0 hn
  go_enter Try.func11, Try.ntmps11
  go_wp2_with (first
    | (go_at_call 27; (with_reducible refine (B.out _ K0.out).mono ?_); rintro e wb ⟨s1, rfl, k1⟩; have K0 := Lib.hid (ktr K0.out k1); clear k1; clear B)
    | (go_at_call 34; (with_reducible refine (loanBegun _).mono ?_); rintro e w1 ⟨rfl, k1⟩; have K0 := Lib.hid (ktr K0.out k1); clear k1))
  have Y := (Blk.made w #[.int .i64 P, .int .i64 U, .int .i64 C] 66).kpt K0.out
  have z0 : w1.cell? ⟨w.heap.size, 0, none⟩ = some (.int .i64 P) := Y.cell 0
  have z1 : w1.cell? ⟨w.heap.size, 1, none⟩ = some (.int .i64 U) := Y.cell 1
  have z2 : w1.cell? ⟨w.heap.size, 2, none⟩ = some (.int .i64 C) := Y.cell 2
  have hlt : w.heap.size < w1.heap.size := Y.lt
  have LT := Lib.hid hlt
  clear Y hlt
  have ML : n + 1 ≤ maxLen := by unfold maxLen; omega
  have HL1 : Hid (∀ j, j < ps.length → PtAt w1 b (off + j * 3) (ps.getD j default)) := fun j hj => (HL.out j hj).kpt (ktr KW.out K0.out)
  obtain ⟨i0, hi0, hz0, hz1, hz2⟩ := info_partsM Try.infoOfferM
  have FL : Hid ((flatP ps).length = n * 3) := by rw [HN.out]; exact flatP_len ps
  go_region_held3 (fun w' => w'.cell? ⟨w.heap.size, 0, none⟩ = some (.int .i64 P) ∧ w'.cell? ⟨w.heap.size, 1, none⟩ = some (.int .i64 U) ∧ w'.cell? ⟨w.heap.size, 2, none⟩ = some (.int .i64 C))
    (first
      | go_keep
      | (go_split_ands
         refine ⟨?_, ?_, ?_⟩
         · (rw [hgrow.cell_far _ (by have := LT.out; (try have := ZA.out); simp; omega) (by have := LT.out; (try have := GE.out); simp [Value.ownBlock]; omega)]; assumption)
         · (rw [hgrow.cell_far _ (by have := LT.out; (try have := ZA.out); simp; omega) (by have := LT.out; (try have := GE.out); simp [Value.ownBlock]; omega)]; assumption)
         · (rw [hgrow.cell_far _ (by have := LT.out; (try have := ZA.out); simp; omega) (by have := LT.out; (try have := GE.out); simp [Value.ownBlock]; omega)]; assumption))
      | exact ⟨y0, y1, y2⟩)
    (first
      | (
         refine step_append_lies _ (by rfl) _ _ _ (by rfl) w1.heap.size 66 i0 _ 3 24 Try.underlying50 hi0 hz0 hz1 hz2 rfl (by omega) (.slice (some ⟨w1.heap.size, 0, none⟩) 0 0) 0 [] (by rfl) (own_none (Nat.le_refl _) (show Blk (w1.alloc (.cells #[] 66)).drew w1.heap.size #[] 66 from Blk.made w1 #[] 66))
            ⟨b, off, none⟩ n cap (flatP ps) (by rfl) FL.out (newsP fun j hj => (HL1.out j hj).kpt (show Kpt w1 (w1.alloc (.cells #[] 66)).drew from Below.drew ((Kpt.refl w1).alloc _))) (flatP_one ps)
            n0 (by omega) (by omega) (by simp) (w1.heap.size + 1) (by simp) ?_; intro gg cap1 wa hown hgrow hat hlt
         have KA := lm_ka hgrow
         have GE := lm_ge hat
         have ZA := Lib.hid KA.out.size
         have HO := lm_ho (v := fun n => .slice (some ⟨gg, 0, none⟩) n cap1) hown
         clear hown)
      | (
         refine step_append_lies _ (by rfl) _ _ _ (by rfl) w1.heap.size 66 i0 _ 3 24 Try.underlying50 hi0 hz0 hz1 hz2 rfl (by omega) (.slice (some ⟨gg, 0, none⟩) n cap1) n (flatP ps) (by first | rfl | exact congrArg (fun k => Value.slice (some ⟨gg, 0, none⟩) k cap1) (Nat.zero_add n)) (HO.out.alloc _)
            ⟨wa.heap.size, 0, none⟩ 1 1 [.int .i64 P, .int .i64 U, .int .i64 C] (by rfl) (by rfl) (World.news_of_block (cs := #[.int .i64 P, .int .i64 U, .int .i64 C]) (t := 66) (fr := (0, 0)) (heap_alloc_new wa _)) (by simp [Value.oneCell'])
            (by omega) ML (by omega) (by have := ZA.out; simp; omega) (wa.heap.size + 1) (by simp) ?_; intro gg2 cap2 wc hown hgrow hat hlt
         have KC := lm_kc KA.out GE.out hgrow
         have RD := lm_rd HN.out IP.out hown
         clear hown)
      | (
         refine step_append_lies _ (by rfl) _ _ _ (by rfl) w1.heap.size 66 i0 _ 3 24 Try.underlying50 hi0 hz0 hz1 hz2 rfl (by omega) (.slice (some ⟨w1.heap.size, 0, none⟩) 0 0) 0 [] (by rfl) (own_none (by omega) (show Blk ((w1.alloc (.cells #[] 66)).alloc (.cells #[.int .i64 P, .int .i64 U, .int .i64 C] 66)).drew w1.heap.size #[] 66 from (Blk.made w1 #[] 66).alloc _))
            ⟨b, off, none⟩ n cap (flatP ps) (by rfl) FL.out (newsP fun j hj => (HL1.out j hj).kpt (show Kpt w1 ((w1.alloc (.cells #[] 66)).alloc (.cells #[.int .i64 P, .int .i64 U, .int .i64 C] 66)).drew from Below.drew (((Kpt.refl w1).alloc _).alloc _))) (flatP_one ps)
            n0 (by omega) (by omega) (by simp; omega) (w1.heap.size + 2) (by simp) ?_; intro gg cap1 wa hown hgrow hat hlt
         have KA := lm_kaG (show Kpt w1 ((w1.alloc (.cells #[] 66)).alloc (.cells #[.int .i64 P, .int .i64 U, .int .i64 C] 66)).drew from Below.drew (((Kpt.refl w1).alloc _).alloc _)) (by omega) hgrow
         have GE := lm_geG (w1 := w1) (by omega) (by omega) hat
         have NB := lm_nb (g := w1.heap.size + 1) (show Blk ((w1.alloc (.cells #[] 66)).alloc (.cells #[.int .i64 P, .int .i64 U, .int .i64 C] 66)).drew (w1.heap.size + 1) #[.int .i64 P, .int .i64 U, .int .i64 C] 66 from (by have := Blk.made (w1.alloc (.cells #[] 66)) #[.int .i64 P, .int .i64 U, .int .i64 C] 66; simpa using this : Blk ((w1.alloc (.cells #[] 66)).alloc (.cells #[.int .i64 P, .int .i64 U, .int .i64 C] 66)) (w1.heap.size + 1) #[.int .i64 P, .int .i64 U, .int .i64 C] 66)) (by omega) hgrow
         have ZA := Lib.hid KA.out.size
         have HO := lm_ho (v := fun n => .slice (some ⟨gg, 0, none⟩) n cap1) hown
         clear hown)
      | (
         refine step_append_lies _ (by rfl) _ _ _ (by rfl) w1.heap.size 66 i0 _ 3 24 Try.underlying50 hi0 hz0 hz1 hz2 rfl (by omega) (.slice (some ⟨w1.heap.size + 1, 0, none⟩) 0 0) 0 [] (by rfl) (own_none (by omega) (show Blk ((w1.alloc (.cells #[.int .i64 P, .int .i64 U, .int .i64 C] 66)).alloc (.cells #[] 66)).drew (w1.heap.size + 1) #[] 66 from (by have := Blk.made (w1.alloc (.cells #[.int .i64 P, .int .i64 U, .int .i64 C] 66)) #[] 66; simpa using this : Blk ((w1.alloc (.cells #[.int .i64 P, .int .i64 U, .int .i64 C] 66)).alloc (.cells #[] 66)) (w1.heap.size + 1) #[] 66)))
            ⟨b, off, none⟩ n cap (flatP ps) (by rfl) FL.out (newsP fun j hj => (HL1.out j hj).kpt (show Kpt w1 ((w1.alloc (.cells #[.int .i64 P, .int .i64 U, .int .i64 C] 66)).alloc (.cells #[] 66)).drew from Below.drew (((Kpt.refl w1).alloc _).alloc _))) (flatP_one ps)
            n0 (by omega) (by omega) (by simp; omega) (w1.heap.size + 2) (by simp) ?_; intro gg cap1 wa hown hgrow hat hlt
         have KA := lm_kaG (show Kpt w1 ((w1.alloc (.cells #[.int .i64 P, .int .i64 U, .int .i64 C] 66)).alloc (.cells #[] 66)).drew from Below.drew (((Kpt.refl w1).alloc _).alloc _)) (by omega) hgrow
         have GE := lm_geG (w1 := w1) (by omega) (by omega) hat
         have NB := lm_nb (g := w1.heap.size) (show Blk ((w1.alloc (.cells #[.int .i64 P, .int .i64 U, .int .i64 C] 66)).alloc (.cells #[] 66)).drew (w1.heap.size) #[.int .i64 P, .int .i64 U, .int .i64 C] 66 from (Blk.made w1 #[.int .i64 P, .int .i64 U, .int .i64 C] 66).alloc _) (by omega) hgrow
         have ZA := Lib.hid KA.out.size
         have HO := lm_ho (v := fun n => .slice (some ⟨gg, 0, none⟩) n cap1) hown
         clear hown)
      | (
         refine step_append_lies _ (by rfl) _ _ _ (by rfl) w1.heap.size 66 i0 _ 3 24 Try.underlying50 hi0 hz0 hz1 hz2 rfl (by omega) (.slice (some ⟨gg, 0, none⟩) n cap1) n (flatP ps) (by first | rfl | exact congrArg (fun k => Value.slice (some ⟨gg, 0, none⟩) k cap1) (Nat.zero_add n)) HO.out
            ⟨w1.heap.size + 1, 0, none⟩ 1 1 [.int .i64 P, .int .i64 U, .int .i64 C] (by rfl) (by rfl) (World.news_of_block (cs := #[.int .i64 P, .int .i64 U, .int .i64 C]) (t := 66) (fr := (0, 0)) NB.out) (by simp [Value.oneCell'])
            (by omega) ML (by omega) ZA.out wa.heap.size (by rfl) ?_; intro gg2 cap2 wc hown hgrow hat hlt
         have KC := lm_kaG KA.out GE.out hgrow
         have RD := lm_rd HN.out IP.out hown
         clear hown)
      | (
         refine step_append_lies _ (by rfl) _ _ _ (by rfl) w1.heap.size 66 i0 _ 3 24 Try.underlying50 hi0 hz0 hz1 hz2 rfl (by omega) (.slice (some ⟨gg, 0, none⟩) n cap1) n (flatP ps) (by first | rfl | exact congrArg (fun k => Value.slice (some ⟨gg, 0, none⟩) k cap1) (Nat.zero_add n)) HO.out
            ⟨w1.heap.size, 0, none⟩ 1 1 [.int .i64 P, .int .i64 U, .int .i64 C] (by rfl) (by rfl) (World.news_of_block (cs := #[.int .i64 P, .int .i64 U, .int .i64 C]) (t := 66) (fr := (0, 0)) NB.out) (by simp [Value.oneCell'])
            (by omega) ML (by omega) ZA.out wa.heap.size (by rfl) ?_; intro gg2 cap2 wc hown hgrow hat hlt
         have KC := lm_kaG KA.out GE.out hgrow
         have RD := lm_rd HN.out IP.out hown
         clear hown)
      | (
         go_at_call 27; (with_reducible refine (D.out _ _ RD.out).mono ?_); rintro e wd ⟨s2, rfl, k1⟩; have KD := Lib.hid (ktr K0.out (ktr KC.out k1)); clear k1
         have y0 : wd.cell? ⟨w.heap.size, 0, none⟩ = some (.int .i64 P) := ((Blk.made w #[.int .i64 P, .int .i64 U, .int .i64 C] 66).kpt KD.out).cell 0
         have y1 : wd.cell? ⟨w.heap.size, 1, none⟩ = some (.int .i64 U) := ((Blk.made w #[.int .i64 P, .int .i64 U, .int .i64 C] 66).kpt KD.out).cell 1
         have y2 : wd.cell? ⟨w.heap.size, 2, none⟩ = some (.int .i64 C) := ((Blk.made w #[.int .i64 P, .int .i64 U, .int .i64 C] 66).kpt KD.out).cell 2))
  all_goals go_wp2_with (first
    | (go_at_call 27; (with_reducible refine (E.out _ KD.out).mono ?_); rintro e we ⟨s3, rfl, k1⟩; have KE := Lib.hid (ktr KD.out k1); clear k1))
  all_goals go_ret
  all_goals exact ⟨rfl, ktr KW.out KE.out⟩

set_option maxRecDepth 100000 in
set_option maxHeartbeats 1000000 in
theorem lmore_no (v : Value) (ps : List (Int × Int × Int)) (P U C u : Int) (w : World) (hr : ReadsP w v ps) (hE : wantE ps u ≠ 0) : Calls Try.prog 11 #[v, .agg #[.int .i64 P, .int .i64 U, .int .i64 C], .int .i64 u] w fun x w' => x = .returned (.bool true) ∧ Kpt w w' := by
  have k0 : Kpt w (w.alloc (.cells #[.int .i64 P, .int .i64 U, .int .i64 C] 66)) := (Kpt.refl w).alloc _
  have B := Lib.hid (best_bad v ps u _ (hr.kpt k0) hE)
  have q : (wantE ps u != 0) = true := bne_iff_ne.2 hE
  have K0 := Lib.hid k0
  clear hr hE k0
  generalize wantE ps u = E at *
  go_enter Try.func11, Try.ntmps11
  go_wp2_with (first
    | (go_at_call 27; (with_reducible refine B.out.mono ?_); rintro e w1 ⟨rfl, k1⟩; have K0 := Lib.hid (ktr K0.out k1); clear k1)
    | (go_at_call 34; (with_reducible refine (loanBegun _).mono ?_); rintro e w1 ⟨rfl, k1⟩; have K0 := Lib.hid (ktr K0.out k1); clear k1))
  go_ret
  exact ⟨rfl, K0.out⟩
/-- what Best answers, whatever it is handed -/
def bstD (ps : List (Int × Int × Int)) (u : Int) : Int := if wantE ps u = 0 then (bestR ps u).2 else 0
theorem best_any2 (ps : List (Int × Int × Int)) (u : Int) (w : World) (v : Value) (hr : ReadsP w v ps) : Calls Try.prog 27 #[v, .int .i64 u] w fun e w' => ∃ s, e = .returned (.tuple #[s, .int .i64 (bstD ps u), .int .i64 (wantE ps u)]) ∧ Kpt w w' := by
  by_cases hE : wantE ps u = 0
  · unfold bstD
    rw [if_pos hE, hE]
    refine (best_ok v ps u w hr hE).mono ?_
    rintro e w1 ⟨g, rfl, _, _, k⟩
    exact ⟨_, rfl, k⟩
  · unfold bstD
    rw [if_neg hE]
    refine (best_bad v ps u w hr hE).mono ?_
    rintro e w1 ⟨rfl, k⟩
    exact ⟨_, rfl, k⟩
theorem lmore_plain (v : Value) (P U C u : Int) (ps : List (Int × Int × Int)) (w : World) (hr : ReadsP w v ps) (hI : (-9223372036854775808 ≤ P ∧ P ≤ 9223372036854775807) ∧ (-9223372036854775808 ≤ U ∧ U ≤ 9223372036854775807) ∧ -9223372036854775808 ≤ C ∧ C ≤ 9223372036854775807) (hu0 : -9223372036854775808 ≤ u ∧ u ≤ 9223372036854775807) : Calls Try.prog 11 #[v, .agg #[.int .i64 P, .int .i64 U, .int .i64 C], .int .i64 u] w fun x w' => x = .returned (.bool true) ∧ Kpt w w' := by
  by_cases hE : wantE ps u = 0
  · obtain ⟨h0, h1, h2⟩ := want_0 hE
    obtain ⟨h40, hall⟩ := loan_0 h0
    have hbu := best_up hE
    have hfit := hr.fits
    have hip : InP (ps ++ [(P, U, C)]) := fun p hp => by
      rcases List.mem_append.1 hp with h | h
      · exact hfit p h
      · obtain rfl : p = (P, U, C) := by simpa using h
        exact hI
    rcases id hr.cell with ⟨rfl, _⟩ | ⟨hp, b, off, cap, rfl, hc⟩
    · exfalso
      have : (unts []).sum = 0 := by simp [unts]
      omega
    · have B0 : ∀ w', Kpt (w.alloc (.cells #[.int .i64 P, .int .i64 U, .int .i64 C] 66)) w' → Calls Try.prog 27 #[.slice (some ⟨b, off, none⟩) ps.length cap, .int .i64 u] w' fun e w'' => ∃ s, e = .returned (.tuple #[s, .int .i64 (bestR ps u).2, .int .i64 0]) ∧ Kpt w' w'' := fun w' k => by
        have h := best_any2 ps u w' _ (hr.kpt (ktr ((Kpt.refl w).alloc _) k))
        unfold bstD at h
        rw [if_pos hE, hE] at h
        exact h
      have E0 : ∀ w', Kpt (w.alloc (.cells #[.int .i64 P, .int .i64 U, .int .i64 C] 66)) w' → Calls Try.prog 27 #[.slice (some ⟨b, off, none⟩) ps.length cap, .int .i64 (u + 1)] w' fun e w'' => ∃ s, e = .returned (.tuple #[s, .int .i64 (bstD ps (u + 1)), .int .i64 (wantE ps (u + 1))]) ∧ Kpt w' w'' := fun w' k => best_any2 ps (u + 1) w' _ (hr.kpt (ktr ((Kpt.refl w).alloc _) k))
      have D0 := fun w' v => best_any2 (ps ++ [(P, U, C)]) u w' v
      by_cases hF : wantE (ps ++ [(P, U, C)]) u = 0
      · have q1 : (wantE (ps ++ [(P, U, C)]) u != 0) = false := by rw [hF]; rfl
        have q2 : decide (bstD (ps ++ [(P, U, C)]) u ≤ (bestR ps u).2 + (ps.length : Int)) = true := decide_eq_true (by unfold bstD; rw [if_pos hF]; exact more_cost hE hF)
        by_cases hH : wantE ps (u + 1) = 0
        · have q3 : (wantE ps (u + 1) != 0) = false := by rw [hH]; rfl
          have q4 : decide ((bestR ps u).2 ≤ bstD ps (u + 1)) = true := decide_eq_true (by unfold bstD; rw [if_pos hH]; exact (more_mono hE).resolve_right (fun h => h hH))
          exact lmore_ff b off cap ps.length ps rfl hp h40 P U C u _ _ _ _ _ h1 hbu q1 q2 q3 q4 w hip hc B0 D0 E0
        · have q3 : (wantE ps (u + 1) != 0) = true := bne_iff_ne.2 hH
          exact lmore_ft b off cap ps.length ps rfl hp h40 P U C u _ _ _ _ _ h1 hbu q1 q2 q3 w hip hc B0 D0 E0
      · have q1 : (wantE (ps ++ [(P, U, C)]) u != 0) = true := bne_iff_ne.2 hF
        by_cases hH : wantE ps (u + 1) = 0
        · have q3 : (wantE ps (u + 1) != 0) = false := by rw [hH]; rfl
          have q4 : decide ((bestR ps u).2 ≤ bstD ps (u + 1)) = true := decide_eq_true (by unfold bstD; rw [if_pos hH]; exact (more_mono hE).resolve_right (fun h => h hH))
          exact lmore_tf b off cap ps.length ps rfl hp h40 P U C u _ _ _ _ _ h1 hbu q1 q3 q4 w hip hc B0 D0 E0
        · have q3 : (wantE ps (u + 1) != 0) = true := bne_iff_ne.2 hH
          exact lmore_tt b off cap ps.length ps rfl hp h40 P U C u _ _ _ _ _ h1 hbu q1 q3 w hip hc B0 D0 E0
  · exact lmore_no v ps P U C u w hr hE

end Go.Proofs.Ytmecggncedhehaa
