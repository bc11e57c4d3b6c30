/-
  Merged: CycL, CycN, CycO.
-/
import Derived.Test.YthaahebggboliaaGreatMcj
import Derived.Deep.RegionLaw
-- CycL
namespace Go.Proofs.YthaahebggboliaaGreat
open Go.RowKit Go.Sort Go.Lib
set_option linter.unusedVariables false

theorem step_appendF {ops : Array Oper} {o : Oper} {a : Act} {w : World} {K : Act → World → Prop} {Q : Exit → Act → World → Prop} {E : Prop} (hgd : o.guard = none) (s x : Operand)
    (ho : o.op = .call { callee := .builtin .append, args := #[s, x], argTypes := #[28, 28] })
    (base : Nat) (v : Value) (fs : List (List Int)) (l : List Int) (hs : a.eval s = v) (hown : OwnsN 10 42 w base v fs) (B : Nat) (hx : a.eval x = .slice (some ⟨B, 0, none⟩) 1 1) (cs : Array Value) (hcs : cs.toList = rowN 10 l) (hB : Blk w B cs 42)
    (hlen : fs.length + 1 ≤ 100000) (hbase : base ≤ w.heap.size)
    (h : ∀ g cap w', OwnsN 10 42 w' base (.slice (some ⟨g, 0, none⟩) (fs ++ [l]).length cap) (fs ++ [l]) → w.grownBy w' v.ownBlock → K (a.put o.dst (.slice (some ⟨g, 0, none⟩) (fs ++ [l]).length cap)) w') :
    if Region.wanted o (yielded ops a.tmps) = true then Oper.wp Tryz.prog o a w K Q else E := by
  obtain ⟨i0, hi, hz0, hz1, hz2⟩ := info_parts Tryz.infoFail
  refine step_append_lies _ hgd s x 28 ho base 42 i0 _ 10 80 Tryz.underlying28 hi hz0 hz1 hz2 rfl (by decide) v _ _ hs hown ⟨B, 0, none⟩ 1 1 (rowN 10 l) hx (rowN_len 10 l) (by rw [← hcs]; exact World.news_of_block hB) ?_ (by decide) ?_ ?_ hbase w.heap.size rfl ?_
  · intro u hu
    obtain ⟨j, _, rfl⟩ := List.mem_map.1 hu
    rfl
  · unfold maxLen; omega
  · omega
  · intro g cap w' h1 h2 h3 h4
    have h5 := h g cap w'
    unfold OwnsN at h5
    rw [List.length_append, flatN_append] at h5
    have : flatN 10 [l] = rowN 10 l := by simp [flatN]
    rw [this] at h5
    exact h5 h1 h2
theorem blk_low {w w' : World} {base : Nat} {e e' : TypeId} {size : Nat} {v : Value} {n : Nat} {xs : List Value} (h : w.ownsRow base e size v n xs) (g : w.grownBy w' v.ownBlock) {k : Nat} {cs : Array Value} (hb : Blk w k cs e') (hk : k < base) : Blk w' k cs e' :=
  (g.block k hb.lt (fun q => by have := (row_ge h q.symm).1; omega)).trans hb
/-- a fail that is not new, or not of today yet -/
def oldB (l : List Int) (T : Int) : Bool := decide (l.getD 7 0 ≠ 0 ∨ l.getD 8 0 ≠ 0 ∨ l.getD 9 0 ≠ 0 ∨ T < l.getD 5 0)
/-- the error of Add; its answer, which is nothing where there is an error -/
def adE (T : Int) (fs : List (List Int)) (b : List (Int × Int × Int)) (l : List Int) : Int := orE (wldE T fs b) (if oldB l T = true then 4 else checksE (fs ++ [l]))
def adT (T : Int) (fs : List (List Int)) (b : List (Int × Int × Int)) (l : List Int) : Int := if adE T fs b l = 0 then T else 0
def adF (T : Int) (fs : List (List Int)) (b : List (Int × Int × Int)) (l : List Int) : List (List Int) := if adE T fs b l = 0 then fs ++ [l] else []
def adB (T : Int) (fs : List (List Int)) (b : List (Int × Int × Int)) (l : List Int) : List (Int × Int × Int) := if adE T fs b l = 0 then b else []
theorem adRes_E {w w' : World} {T E : Int} {fs : List (List Int)} {b : List (Int × Int × Int)} {l : List Int} (h : adE T fs b l = E) (h0 : E ≠ 0) (k : Kpt w w') : WdRes w (adE T fs b l) (adT T fs b l) (adF T fs b l) (adB T fs b l) (.returned (.tuple #[.agg #[.int .i64 0, .slice none 0 0, .slice none 0 0], .int .i64 E])) w' := by
  subst h
  unfold adT adF adB
  rw [if_neg h0, if_neg h0, if_neg h0]
  exact ⟨_, _, rfl, OwnsN.nil _ _ _ _, OwnsP.nil _ _, k⟩
/-- a clerk's fails taken from another slice -/
theorem clerk_fails {w w' : World} {base g : Nat} {T : Int} {fv fv' bv pv : Value} {fs fs' : List (List Int)} {b p : List (Int × Int × Int)} (h : ClerkIs w base g T fv bv pv fs b p) (gr : w.grownBy w' fv.ownBlock) (of : OwnsN 10 42 w' base fv' fs') : ClerkIs (w'.setCell ⟨g, 1, none⟩ fv') base g T fv' bv pv fs' b p ∧ Below base w (w'.setCell ⟨g, 1, none⟩ fv') := by
  have b2 : Blk w' g #[.int .i64 T, fv, bv, pv] 75 := blk_grown h.of gr h.blk (by decide)
  have hb : base ≤ w.heap.size := Nat.le_of_lt (Nat.lt_of_le_of_lt h.ge h.blk.lt)
  refine ⟨⟨h.ge, Blk.put b2 1 _, row_away of b2 (by decide) _ _, row_away (row_other h.ob gr (row_types h.ob h.of (by decide))) b2 (by decide) _ _, row_away (row_other h.op gr (row_types h.op h.of (by decide))) b2 (by decide) _ _, h.ap⟩, Below.setCell ?_ h.ge _⟩
  exact (Below.refl base w).grown gr hb (fun k hk => (row_ge h.of hk).1)

set_option maxRecDepth 100000 in
set_option maxHeartbeats 4000000 in
theorem add_any (T i f t c p d u x b9 y : Int) (fv bv : Value) (fs : List (List Int)) (b : List (Int × Int × Int)) (w : World) (hF : ReadsF w fv fs) (hn : NilC fv) (hb : ReadsP w bv b) (hl : FlB [i, f, t, c, p, d, u, x, b9, y]) :
    Calls Tryz.prog 21 #[.agg #[.int .i64 T, fv, bv], .agg #[.int .i64 i, .int .i64 f, .int .i64 t, .int .i64 c, .int .i64 p, .int .i64 d, .int .i64 u, .int .i64 x, .int .i64 b9, .int .i64 y]] w (WdRes w (adE T fs b [i, f, t, c, p, d, u, x, b9, y]) (adT T fs b [i, f, t, c, p, d, u, x, b9, y]) (adF T fs b [i, f, t, c, p, d, u, x, b9, y]) (adB T fs b [i, f, t, c, p, d, u, x, b9, y])) := by
  have WC := fun w' (k : Kpt w w') => wcheck_run T fv bv fs b w' (hF.kpt k) (hb.kpt k)
  have K0 : Hid (Kpt w (((w.alloc (.cells #[.int .i64 T, fv, bv] 31)).alloc (.cells #[.int .i64 i, .int .i64 f, .int .i64 t, .int .i64 c, .int .i64 p, .int .i64 d, .int .i64 u, .int .i64 x, .int .i64 b9, .int .i64 y] 42)).alloc (.cells #[.int .i64 0, .slice none 0 0, .slice none 0 0] 31))) := (((Kpt.refl w).alloc _).alloc _).alloc _
  have B3 : Hid (Blk (((w.alloc (.cells #[.int .i64 T, fv, bv] 31)).alloc (.cells #[.int .i64 i, .int .i64 f, .int .i64 t, .int .i64 c, .int .i64 p, .int .i64 d, .int .i64 u, .int .i64 x, .int .i64 b9, .int .i64 y] 42)).alloc (.cells #[.int .i64 0, .slice none 0 0, .slice none 0 0] 31)) (w.heap.size + 1) #[.int .i64 i, .int .i64 f, .int .i64 t, .int .i64 c, .int .i64 p, .int .i64 d, .int .i64 u, .int .i64 x, .int .i64 b9, .int .i64 y] 42) := by
    have := Blk.made (w.alloc (.cells #[.int .i64 T, fv, bv] 31)) #[.int .i64 i, .int .i64 f, .int .i64 t, .int .i64 c, .int .i64 p, .int .i64 d, .int .i64 u, .int .i64 x, .int .i64 b9, .int .i64 y] 42
    rw [World.size_alloc] at this
    exact this.alloc _
  have B6 : Hid (Blk (((w.alloc (.cells #[.int .i64 T, fv, bv] 31)).alloc (.cells #[.int .i64 i, .int .i64 f, .int .i64 t, .int .i64 c, .int .i64 p, .int .i64 d, .int .i64 u, .int .i64 x, .int .i64 b9, .int .i64 y] 42)).alloc (.cells #[.int .i64 0, .slice none 0 0, .slice none 0 0] 31)) (w.heap.size + 2) #[.int .i64 0, .slice none 0 0, .slice none 0 0] 31) := by
    have := Blk.made ((w.alloc (.cells #[.int .i64 T, fv, bv] 31)).alloc (.cells #[.int .i64 i, .int .i64 f, .int .i64 t, .int .i64 c, .int .i64 p, .int .i64 d, .int .i64 u, .int .i64 x, .int .i64 b9, .int .i64 y] 42)) #[.int .i64 0, .slice none 0 0, .slice none 0 0] 31
    rwa [World.size_alloc, World.size_alloc] at this
  have mixed : Tryz.prog.follows .mixedOrders = true := by kernel_rfl
  obtain ⟨af, capf, rfl, -⟩ := id hF
  obtain ⟨ab, capb, rfl, -⟩ := id hb
  by_cases h2 : wldE T fs b = 0
  · have NE : Hid (adE T fs b [i, f, t, c, p, d, u, x, b9, y] = if oldB [i, f, t, c, p, d, u, x, b9, y] T = true then 4 else checksE (fs ++ [[i, f, t, c, p, d, u, x, b9, y]])) := by unfold Hid adE; rw [orE, if_pos h2]
    have EN := Lib.hid (fun w' (k : Kpt w w') => engage_ok T _ _ fs b w' (hF.kpt k) hn (hb.kpt k) h2)
    have h60 := (checksE_0 (wld_0 h2).2.1).1
    have CK := Lib.hid (fun v w' (h : ReadsF w' v (fs ++ [[i, f, t, c, p, d, u, x, b9, y]])) => checks_run v (fs ++ [[i, f, t, c, p, d, u, x, b9, y]]) w' h)
    have FB : Hid (∀ l ∈ fs ++ [[i, f, t, c, p, d, u, x, b9, y]], FlB l) := by
      intro l hm
      rcases List.mem_append.1 hm with h | h
      · exact flB_of hF l h
      · rw [List.mem_singleton] at h; subst h; exact hl
    obtain ⟨bq, hbq⟩ : ∃ B, oldB [i, f, t, c, p, d, u, x, b9, y] T = B := ⟨_, rfl⟩
    rw [hbq] at NE
    have Hbq := Lib.hid hbq
    have NT : Hid (adE T fs b [i, f, t, c, p, d, u, x, b9, y] = 0 → adT T fs b [i, f, t, c, p, d, u, x, b9, y] = T ∧ adF T fs b [i, f, t, c, p, d, u, x, b9, y] = fs ++ [[i, f, t, c, p, d, u, x, b9, y]] ∧ adB T fs b [i, f, t, c, p, d, u, x, b9, y] = b) := fun h => ⟨if_pos h, if_pos h, if_pos h⟩
    have FIN := Lib.hid (fun (E : Int) w' (h : adE T fs b [i, f, t, c, p, d, u, x, b9, y] = E) (h0 : E ≠ 0) (k : Kpt w w') => adRes_E h h0 k)
    have H60 := Lib.hid h60
    clear h2 WC hF hn hb hbq hl h60
    go_enter Tryz.func21, Tryz.ntmps21
    go_upto_region 4 with (go_at_call 37; (with_reducible refine (EN.out _ K0.out).mono ?_); rintro z w2 ⟨g, fv2, bv2, rfl, hc2, kk⟩; have C2 := Lib.hid hc2; have K2 := Lib.hid (ktr K0.out kk); have K02 := Lib.hid kk; have B62 := Lib.hid (B6.out.kpt kk); have B32 := Lib.hid (B3.out.kpt kk); clear hc2 kk)
    have K3' := K2
    go_cut [40] from 18 to 40 (fun vb wx => vb = .bool bq ∧ Hid (Kpt w2 wx))
    case first =>
      have q7 := cell_k (q := w2) (a := ⟨w.heap.size + 1, 7, none⟩) (v := .int .i64 x) (B32.out.cell 7)
      have q8 := cell_k (q := w2) (a := ⟨w.heap.size + 1, 8, none⟩) (v := .int .i64 b9) (B32.out.cell 8)
      have q9 := cell_k (q := w2) (a := ⟨w.heap.size + 1, 9, none⟩) (v := .int .i64 y) (B32.out.cell 9)
      have q5 := cell_k (q := w2) (a := ⟨w.heap.size + 1, 5, none⟩) (v := .int .i64 d) (B32.out.cell 5)
      have qT := cell_k (q := w2) (a := ⟨g, 0, none⟩) (v := .int .i64 T) (C2.out.blk.cell 0)
      have hbq := Hbq.out
      unfold oldB at hbq
      by_cases e7 : x = 0
      · have y7 : (x != 0) = false := by rw [e7]; rfl
        by_cases e8 : b9 = 0
        · have y8 : (b9 != 0) = false := by rw [e8]; rfl
          by_cases e9 : y = 0
          · have y9 : (y != 0) = false := by rw [e9]; rfl
            by_cases e5 : T < d
            · have y5 : decide (T < d) = true := decide_eq_true e5
              obtain rfl : bq = true := by rw [← hbq]; exact decide_eq_true (.inr (.inr (.inr e5)))
              clear hbq e7 e8 e9 e5
              refine quiet_k (q := w2) mixed (by kernel_rfl) ?_
              repeat (go_big_quiet_step (fail))
              refine wpQuiet_nil ?_
              intro w8 hw1
              obtain ⟨⟨wz, kz⟩, hw2⟩ := hw1
              have hw3 : w8 = wz := hw2
              clear hw2
              subst hw3
              have KZ8 := Lib.hid kz
              clear kz
              go_wp2
              go_meet
              case rel => exact ⟨rfl, KZ8.out⟩
            · have y5 : decide (T < d) = false := decide_eq_false e5
              obtain rfl : bq = false := by rw [← hbq]; exact decide_eq_false (by simp only [List.getD_cons_succ, List.getD_cons_zero]; omega)
              clear hbq e7 e8 e9 e5
              refine quiet_k (q := w2) mixed (by kernel_rfl) ?_
              repeat (go_big_quiet_step (fail))
              refine wpQuiet_nil ?_
              intro w8 hw1
              obtain ⟨⟨wz, kz⟩, hw2⟩ := hw1
              have hw3 : w8 = wz := hw2
              clear hw2
              subst hw3
              have KZ8 := Lib.hid kz
              clear kz
              go_wp2
              go_meet
              case rel => exact ⟨rfl, KZ8.out⟩
          · have y9 : (y != 0) = true := bne_iff_ne.2 e9
            obtain rfl : bq = true := by rw [← hbq]; exact decide_eq_true (.inr (.inr (.inl e9)))
            clear hbq e7 e8 e9
            refine quiet_k (q := w2) mixed (by kernel_rfl) ?_
            repeat (go_big_quiet_step (fail))
            refine wpQuiet_nil ?_
            intro w8 hw1
            obtain ⟨⟨wz, kz⟩, hw2⟩ := hw1
            have hw3 : w8 = wz := hw2
            clear hw2
            subst hw3
            have KZ8 := Lib.hid kz
            clear kz
            go_wp2
            go_meet
            case rel => exact ⟨rfl, KZ8.out⟩
        · have y8 : (b9 != 0) = true := bne_iff_ne.2 e8
          obtain rfl : bq = true := by rw [← hbq]; exact decide_eq_true (.inr (.inl e8))
          clear hbq e7 e8
          refine quiet_k (q := w2) mixed (by kernel_rfl) ?_
          repeat (go_big_quiet_step (fail))
          refine wpQuiet_nil ?_
          intro w8 hw1
          obtain ⟨⟨wz, kz⟩, hw2⟩ := hw1
          have hw3 : w8 = wz := hw2
          clear hw2
          subst hw3
          have KZ8 := Lib.hid kz
          clear kz
          go_wp2
          go_meet
          case rel => exact ⟨rfl, KZ8.out⟩
      · have y7 : (x != 0) = true := bne_iff_ne.2 e7
        obtain rfl : bq = true := by rw [← hbq]; exact decide_eq_true (.inl e7)
        clear hbq e7
        refine quiet_k (q := w2) mixed (by kernel_rfl) ?_
        repeat (go_big_quiet_step (fail))
        refine wpQuiet_nil ?_
        intro w8 hw1
        obtain ⟨⟨wz, kz⟩, hw2⟩ := hw1
        have hw3 : w8 = wz := hw2
        clear hw2
        subst hw3
        have KZ8 := Lib.hid kz
        clear kz
        go_wp2
        go_meet
        case rel => exact ⟨rfl, KZ8.out⟩
    case rest =>
      obtain ⟨rfl, KC⟩ := hcut
      have KCC := KC
      have C3 := Lib.hid (C2.out.kpt KC.out)
      have B33 := Lib.hid (B32.out.kpt KC.out)
      have B63 := Lib.hid (B62.out.kpt KC.out)
      have K3 := Lib.hid (ktr K2.out KC.out)
      have K03 := Lib.hid (ktr K02.out KC.out)
      cases bq with
      | true =>
        have NE2 : Hid (adE T fs b [i, f, t, c, p, d, u, x, b9, y] = 4) := by unfold Hid; rw [NE.out]; rfl
        go_wp2_with (refine wp_storeW rfl (.tmp 4) (.tmp 41) rfl (w.heap.size + 2) _ _ rfl rfl B63.out rfl rfl (by simp [Value.oneCell']) ?_; intro w9 r9 k9 o9; have R9 := Lib.hid r9; have K9 : Hid (Kpt w w9) := Lib.hid (k9 _ _ K3.out (by omega)); clear r9 k9 o9)
        exact bodyPost_ret (v := .tuple #[.agg #[.int .i64 0, .slice none 0 0, .slice none 0 0], .int .i64 4]) (results_W2 Tryz.results21 _ _ _ _ _ rfl rfl R9.out rfl) rfl (FIN.out _ _ NE2.out (by decide) K9.out)
      | false =>
        have NE2 : Hid (adE T fs b [i, f, t, c, p, d, u, x, b9, y] = checksE (fs ++ [[i, f, t, c, p, d, u, x, b9, y]])) := by unfold Hid; rw [NE.out]; rfl
        obtain ⟨a5, n5, cap5, rfl, hn5⟩ := OwnsN.form C3.out.of
        obtain ⟨a6, cap6, rfl⟩ := OwnsP.form C3.out.ob
        have s0 : World.cell? wc ⟨g, 1, none⟩ = some (.slice a5 n5 cap5) := C3.out.blk.cell 1
        have d0 : World.cell? wc ⟨w.heap.size + 1, 0, none⟩ = some (.int .i64 i) := B33.out.cell 0
        have d1 : World.cell? wc ⟨w.heap.size + 1, 1, none⟩ = some (.int .i64 f) := B33.out.cell 1
        have d2 : World.cell? wc ⟨w.heap.size + 1, 2, none⟩ = some (.int .i64 t) := B33.out.cell 2
        have d3 : World.cell? wc ⟨w.heap.size + 1, 3, none⟩ = some (.int .i64 c) := B33.out.cell 3
        have d4 : World.cell? wc ⟨w.heap.size + 1, 4, none⟩ = some (.int .i64 p) := B33.out.cell 4
        have d5 : World.cell? wc ⟨w.heap.size + 1, 5, none⟩ = some (.int .i64 d) := B33.out.cell 5
        have d6 : World.cell? wc ⟨w.heap.size + 1, 6, none⟩ = some (.int .i64 u) := B33.out.cell 6
        have d7 : World.cell? wc ⟨w.heap.size + 1, 7, none⟩ = some (.int .i64 x) := B33.out.cell 7
        have d8 : World.cell? wc ⟨w.heap.size + 1, 8, none⟩ = some (.int .i64 b9) := B33.out.cell 8
        have d9 : World.cell? wc ⟨w.heap.size + 1, 9, none⟩ = some (.int .i64 y) := B33.out.cell 9
        have KA : Hid (Kpt wc (wc.alloc (.cells #[.int .i64 i, .int .i64 f, .int .i64 t, .int .i64 c, .int .i64 p, .int .i64 d, .int .i64 u, .int .i64 x, .int .i64 b9, .int .i64 y] 42))) := (Kpt.refl wc).alloc _
        have a0 : World.cell? (wc.alloc (.cells #[.int .i64 i, .int .i64 f, .int .i64 t, .int .i64 c, .int .i64 p, .int .i64 d, .int .i64 u, .int .i64 x, .int .i64 b9, .int .i64 y] 42)) ⟨g, 1, none⟩ = some (.slice a5 n5 cap5) := (C3.out.blk.kpt KA.out).cell 1
        have b0_ : World.cell? (wc.alloc (.cells #[.int .i64 i, .int .i64 f, .int .i64 t, .int .i64 c, .int .i64 p, .int .i64 d, .int .i64 u, .int .i64 x, .int .i64 b9, .int .i64 y] 42)) ⟨w.heap.size + 1, 0, none⟩ = some (.int .i64 i) := (B33.out.kpt KA.out).cell 0
        have b1_ : World.cell? (wc.alloc (.cells #[.int .i64 i, .int .i64 f, .int .i64 t, .int .i64 c, .int .i64 p, .int .i64 d, .int .i64 u, .int .i64 x, .int .i64 b9, .int .i64 y] 42)) ⟨w.heap.size + 1, 1, none⟩ = some (.int .i64 f) := (B33.out.kpt KA.out).cell 1
        have b2_ : World.cell? (wc.alloc (.cells #[.int .i64 i, .int .i64 f, .int .i64 t, .int .i64 c, .int .i64 p, .int .i64 d, .int .i64 u, .int .i64 x, .int .i64 b9, .int .i64 y] 42)) ⟨w.heap.size + 1, 2, none⟩ = some (.int .i64 t) := (B33.out.kpt KA.out).cell 2
        have b3_ : World.cell? (wc.alloc (.cells #[.int .i64 i, .int .i64 f, .int .i64 t, .int .i64 c, .int .i64 p, .int .i64 d, .int .i64 u, .int .i64 x, .int .i64 b9, .int .i64 y] 42)) ⟨w.heap.size + 1, 3, none⟩ = some (.int .i64 c) := (B33.out.kpt KA.out).cell 3
        have b4_ : World.cell? (wc.alloc (.cells #[.int .i64 i, .int .i64 f, .int .i64 t, .int .i64 c, .int .i64 p, .int .i64 d, .int .i64 u, .int .i64 x, .int .i64 b9, .int .i64 y] 42)) ⟨w.heap.size + 1, 4, none⟩ = some (.int .i64 p) := (B33.out.kpt KA.out).cell 4
        have b5_ : World.cell? (wc.alloc (.cells #[.int .i64 i, .int .i64 f, .int .i64 t, .int .i64 c, .int .i64 p, .int .i64 d, .int .i64 u, .int .i64 x, .int .i64 b9, .int .i64 y] 42)) ⟨w.heap.size + 1, 5, none⟩ = some (.int .i64 d) := (B33.out.kpt KA.out).cell 5
        have b6_ : World.cell? (wc.alloc (.cells #[.int .i64 i, .int .i64 f, .int .i64 t, .int .i64 c, .int .i64 p, .int .i64 d, .int .i64 u, .int .i64 x, .int .i64 b9, .int .i64 y] 42)) ⟨w.heap.size + 1, 6, none⟩ = some (.int .i64 u) := (B33.out.kpt KA.out).cell 6
        have b7_ : World.cell? (wc.alloc (.cells #[.int .i64 i, .int .i64 f, .int .i64 t, .int .i64 c, .int .i64 p, .int .i64 d, .int .i64 u, .int .i64 x, .int .i64 b9, .int .i64 y] 42)) ⟨w.heap.size + 1, 7, none⟩ = some (.int .i64 x) := (B33.out.kpt KA.out).cell 7
        have b8_ : World.cell? (wc.alloc (.cells #[.int .i64 i, .int .i64 f, .int .i64 t, .int .i64 c, .int .i64 p, .int .i64 d, .int .i64 u, .int .i64 x, .int .i64 b9, .int .i64 y] 42)) ⟨w.heap.size + 1, 8, none⟩ = some (.int .i64 b9) := (B33.out.kpt KA.out).cell 8
        have b9_ : World.cell? (wc.alloc (.cells #[.int .i64 i, .int .i64 f, .int .i64 t, .int .i64 c, .int .i64 p, .int .i64 d, .int .i64 u, .int .i64 x, .int .i64 b9, .int .i64 y] 42)) ⟨w.heap.size + 1, 9, none⟩ = some (.int .i64 y) := (B33.out.kpt KA.out).cell 9
        go_upto_region 6 with fail
        go_region_law
          (first
            | (refine step_appendF (by rfl) _ _ (by rfl) (((w.alloc (.cells #[.int .i64 T, .slice af fs.length capf, .slice ab b.length capb] 31)).alloc (.cells #[.int .i64 i, .int .i64 f, .int .i64 t, .int .i64 c, .int .i64 p, .int .i64 d, .int .i64 u, .int .i64 x, .int .i64 b9, .int .i64 y] 42)).alloc (.cells #[.int .i64 0, .slice none 0 0, .slice none 0 0] 31)).heap.size (.slice a5 n5 cap5) fs [i, f, t, c, p, d, u, x, b9, y] (by rfl) (row_kpt C3.out.of (show Kpt wc (wc.alloc (.cells #[.int .i64 i, .int .i64 f, .int .i64 t, .int .i64 c, .int .i64 p, .int .i64 d, .int .i64 u, .int .i64 x, .int .i64 b9, .int .i64 y] 42)).drew from Below.drew ((Kpt.refl wc).alloc _))) wc.heap.size (by rfl) #[.int .i64 i, .int .i64 f, .int .i64 t, .int .i64 c, .int .i64 p, .int .i64 d, .int .i64 u, .int .i64 x, .int .i64 b9, .int .i64 y] rfl (show Blk (wc.alloc (.cells #[.int .i64 i, .int .i64 f, .int .i64 t, .int .i64 c, .int .i64 p, .int .i64 d, .int .i64 u, .int .i64 x, .int .i64 b9, .int .i64 y] 42)).drew wc.heap.size #[.int .i64 i, .int .i64 f, .int .i64 t, .int .i64 c, .int .i64 p, .int .i64 d, .int .i64 u, .int .i64 x, .int .i64 b9, .int .i64 y] 42 from Blk.made wc _ _) (by have := H60.out; omega) (by have := K03.out.size; simp at *; omega) ?_; intro gg cap7 w7 o7 gr7; obtain ⟨n7', hn7⟩ : ∃ m, m = (fs ++ [[i, f, t, c, p, d, u, x, b9, y]]).length := ⟨_, rfl⟩; rw [← hn7] at o7 ⊢; have HN7 := Lib.hid hn7; clear hn7; have O7 := Lib.hid o7; have G7 := Lib.hid gr7; have KX7 : Hid (Kpt wc (wc.alloc (.cells #[.int .i64 i, .int .i64 f, .int .i64 t, .int .i64 c, .int .i64 p, .int .i64 d, .int .i64 u, .int .i64 x, .int .i64 b9, .int .i64 y] 42)).drew) := Below.drew ((Kpt.refl wc).alloc _); have O3 := row_kpt C3.out.of KX7.out; have CB7 : Hid (Blk w7 g #[.int .i64 T, .slice a5 n5 cap5, .slice a6 b.length cap6, .slice none 0 0] 75) := blk_grown O3 gr7 (C3.out.blk.kpt KX7.out) (by decide); have FB7 : Hid (Blk w7 (w.heap.size + 1) #[.int .i64 i, .int .i64 f, .int .i64 t, .int .i64 c, .int .i64 p, .int .i64 d, .int .i64 u, .int .i64 x, .int .i64 b9, .int .i64 y] 42) := blk_low O3 gr7 (B33.out.kpt KX7.out) (by simp); have RB7 : Hid (Blk w7 (w.heap.size + 2) #[.int .i64 0, .slice none 0 0, .slice none 0 0] 31) := blk_grown O3 gr7 (B63.out.kpt KX7.out) (by decide); have n0' : World.cell? w7 ⟨g, 1, none⟩ = some (.slice a5 n5 cap5) := CB7.out.cell 1; have fz : World.frozen? w7 ⟨g, 1, none⟩ = false := Blk.frozen CB7.out 1; have n0 : World.cell? w7 ⟨w.heap.size + 1, 0, none⟩ = some (.int .i64 i) := FB7.out.cell 0; have n1 : World.cell? w7 ⟨w.heap.size + 1, 1, none⟩ = some (.int .i64 f) := FB7.out.cell 1; have n2 : World.cell? w7 ⟨w.heap.size + 1, 2, none⟩ = some (.int .i64 t) := FB7.out.cell 2; have n3 : World.cell? w7 ⟨w.heap.size + 1, 3, none⟩ = some (.int .i64 c) := FB7.out.cell 3; have n4 : World.cell? w7 ⟨w.heap.size + 1, 4, none⟩ = some (.int .i64 p) := FB7.out.cell 4; have n5' : World.cell? w7 ⟨w.heap.size + 1, 5, none⟩ = some (.int .i64 d) := FB7.out.cell 5; have n6 : World.cell? w7 ⟨w.heap.size + 1, 6, none⟩ = some (.int .i64 u) := FB7.out.cell 6; have n7 : World.cell? w7 ⟨w.heap.size + 1, 7, none⟩ = some (.int .i64 x) := FB7.out.cell 7; have n8 : World.cell? w7 ⟨w.heap.size + 1, 8, none⟩ = some (.int .i64 b9) := FB7.out.cell 8; have n9 : World.cell? w7 ⟨w.heap.size + 1, 9, none⟩ = some (.int .i64 y) := FB7.out.cell 9; have eg : ¬ (g = w.heap.size + 1) := (by have := C3.out.ge; simp at this; omega); have eg2 : ¬ (w.heap.size + 1 = g) := fun e => eg e.symm; clear o7 gr7 O3))
        all_goals
          refine ‹∀ (a : Act) (w_1 : World), Code.wp _ _ _ a w_1 → _› _ _ ?_
          obtain ⟨c8, b8⟩ := clerk_fails (ClerkIs.kpt C3.out KX7.out) G7.out O7.out
          have RB8 := Lib.hid (Blk.away RB7.out (p := ⟨g, 1, none⟩) (by have := C3.out.ge; simp at this ⊢; omega) (.slice (some ⟨gg, 0, none⟩) n7' cap7))
          have C8 := Lib.hid c8
          have K08 := Lib.hid (Below.trans (ktr K03.out KX7.out) b8)
          clear c8 b8 n0' n0 n1 n2 n3 n4 n5' n6 n7 n8 n9 fz eg eg2 FB7 CB7 RB7 G7 O7
          obtain ⟨w8, hw8⟩ : ∃ w8, World.setCell w7 ⟨g, 1, none⟩ (.slice (some ⟨gg, 0, none⟩) n7' cap7) = w8 := ⟨_, rfl⟩
          rw [hw8] at RB8 C8 K08
          rw [hw8]
          clear hw8
          have s1' : World.cell? w8 ⟨g, 1, none⟩ = some (.slice (some ⟨gg, 0, none⟩) n7' cap7) := C8.out.blk.cell 1
          have RF := Lib.hid (C8.out.of.readsF FB.out)
          by_cases h9 : checksE (fs ++ [[i, f, t, c, p, d, u, x, b9, y]]) = 0
          · have e0 := NE2.out.trans h9
            obtain ⟨q1, q2, q3⟩ := NT.out e0
            rw [h9] at CK
            rw [e0, q1, q2, q3]
            go_wp2_with (first
              | (go_at_call 56; (with_reducible refine (CK.out _ _ RF.out).mono ?_); rintro z w9 ⟨rfl, kk⟩; have K09 : Hid (Kpt w w9) := ktr K0.out (ktr K08.out kk); have RB9 := Lib.hid (RB8.out.kpt kk); have C9 := Lib.hid (ClerkIs.kpt C8.out kk); have r0 : World.cell? w9 ⟨g, 0, none⟩ = some (.int .i64 T) := C9.out.blk.cell 0; have r1 : World.cell? w9 ⟨g, 1, none⟩ = some (.slice (some ⟨gg, 0, none⟩) n7' cap7) := C9.out.blk.cell 1; have r2 : World.cell? w9 ⟨g, 2, none⟩ = some (.slice a6 b.length cap6) := C9.out.blk.cell 2; clear kk)
              | (refine wp_storeW rfl (.tmp 4) (.tmp 67) rfl (w.heap.size + 2) _ _ rfl rfl RB9.out rfl rfl (by simp [Value.oneCell']) ?_; intro w10 r9 k9 o9; have R9 := Lib.hid r9; have K9 : Hid (Kpt w w10) := Lib.hid (k9 _ _ K09.out (by omega)); have oF : Hid (OwnsN 10 42 w10 w.heap.size (.slice (some ⟨gg, 0, none⟩) n7' cap7) (fs ++ [[i, f, t, c, p, d, u, x, b9, y]])) := row_put (row_base C9.out.of K0.out.size) RB9.out o9 (by decide); have oB : Hid (OwnsP w10 w.heap.size (.slice a6 b.length cap6) b) := row_put (row_base C9.out.ob K0.out.size) RB9.out o9 (by decide); clear r9 k9 o9))
            exact bodyPost_ret (v := .tuple #[.agg #[.int .i64 T, (.slice (some ⟨gg, 0, none⟩) n7' cap7), .slice a6 b.length cap6], .int .i64 0]) (results_W2 Tryz.results21 _ _ _ _ _ rfl rfl R9.out rfl) rfl ⟨_, _, rfl, oF.out, oB.out, K9.out⟩
          · have z0 : (checksE (fs ++ [[i, f, t, c, p, d, u, x, b9, y]]) != 0) = true := bne_iff_ne.2 h9
            have HX := NE2.out
            clear NE NE2
            generalize checksE (fs ++ [[i, f, t, c, p, d, u, x, b9, y]]) = E at CK z0 HX h9
            go_wp2_with (first
              | (go_at_call 56; (with_reducible refine (CK.out _ _ RF.out).mono ?_); rintro z w9 ⟨rfl, kk⟩; have K09 : Hid (Kpt w w9) := ktr K0.out (ktr K08.out kk); have RB9 := Lib.hid (RB8.out.kpt kk); have C9 := Lib.hid (ClerkIs.kpt C8.out kk); have r0 : World.cell? w9 ⟨g, 0, none⟩ = some (.int .i64 T) := C9.out.blk.cell 0; have r1 : World.cell? w9 ⟨g, 1, none⟩ = some (.slice (some ⟨gg, 0, none⟩) n7' cap7) := C9.out.blk.cell 1; have r2 : World.cell? w9 ⟨g, 2, none⟩ = some (.slice a6 b.length cap6) := C9.out.blk.cell 2; clear kk)
              | (refine wp_storeW rfl (.tmp 4) (.tmp 62) rfl (w.heap.size + 2) _ _ rfl rfl RB9.out rfl rfl (by simp [Value.oneCell']) ?_; intro w10 r9 k9 o9; have R9 := Lib.hid r9; have K9 : Hid (Kpt w w10) := Lib.hid (k9 _ _ K09.out (by omega)); clear r9 k9 o9))
            exact bodyPost_ret (v := .tuple #[.agg #[.int .i64 0, .slice none 0 0, .slice none 0 0], .int .i64 E]) (results_W2 Tryz.results21 _ _ _ _ _ rfl rfl R9.out rfl) rfl (FIN.out _ _ HX h9 K9.out)
  · have HX : Hid (adE T fs b [i, f, t, c, p, d, u, x, b9, y] = wldE T fs b) := by unfold Hid adE; rw [orE, if_neg h2]
    have EN := Lib.hid (fun w' (k : Kpt w w') => engage_bad T _ _ _ w' h2 ⟨_, _, _, rfl⟩ ⟨_, _, _, rfl⟩ (fun w'' k' => WC w'' (ktr k k')))
    have z0 : (wldE T fs b != 0) = true := bne_iff_ne.2 h2
    have FIN := Lib.hid (fun w' (k : Kpt w w') => adRes_E HX.out h2 k)
    clear h2 WC hF hn hb HX hl
    generalize wldE T fs b = E at *
    go_enter Tryz.func21, Tryz.ntmps21
    go_wp2_with (first
      | (go_at_call 37; (with_reducible refine (EN.out _ K0.out).mono ?_); rintro z w2 ⟨rfl, kk⟩; have K2 := Lib.hid (ktr K0.out kk); have B62 := Lib.hid (B6.out.kpt kk); clear kk)
      | (refine wp_storeW rfl (.tmp 4) (.tmp 16) rfl (w.heap.size + 2) _ _ rfl rfl B62.out rfl rfl (by simp [Value.oneCell']) ?_; intro w9 r9 k9 o9; have R9 := Lib.hid r9; have K9 : Hid (Kpt w w9) := Lib.hid (k9 _ _ K2.out (by omega)); clear r9 k9 o9))
    exact bodyPost_ret (v := .tuple #[.agg #[.int .i64 0, .slice none 0 0, .slice none 0 0], .int .i64 E]) (results_W2 Tryz.results21 _ _ _ _ _ rfl rfl R9.out rfl) rfl (FIN.out _ K9.out)

end Go.Proofs.YthaahebggboliaaGreat

-- CycN
namespace Go.Proofs.YthaahebggboliaaGreat
open Go.RowKit Go.Sort Go.Lib
set_option linter.unusedVariables false

set_option maxRecDepth 100000 in
set_option maxHeartbeats 4000000 in
theorem tidy1_run (i f t c p d u x b y : Int) (w : World) : Calls Tryz.prog 62 #[.agg #[.int .i64 i, .int .i64 f, .int .i64 t, .int .i64 c, .int .i64 p, .int .i64 d, .int .i64 u, .int .i64 x, .int .i64 b, .int .i64 y]] w fun e w' => e = .returned (.bool (openV i f t c p d u x b y == 0)) ∧ Kpt w w' := by
  have OX := Lib.hid (fun w' => fopenX_run i f t c p d u x b y w')
  have K0 : Hid (Kpt w (w.alloc (.cells #[.int .i64 i, .int .i64 f, .int .i64 t, .int .i64 c, .int .i64 p, .int .i64 d, .int .i64 u, .int .i64 x, .int .i64 b, .int .i64 y] 42))) := (Kpt.refl w).alloc _
  generalize openV i f t c p d u x b y = O at *
  generalize failE i f t c p d u x b y = E at *
  by_cases h : O = 0
  · have z : (O == 0) = true := beq_iff_eq.2 h
    have z' : (O != 0) = false := by rw [h]; rfl
    clear h
    rw [z]
    go_enter Tryz.func62, Tryz.ntmps62
    go_wp2_with (go_at_call 34; (with_reducible refine (OX.out _).mono ?_); rintro e w1 ⟨rfl, k1⟩; have K1 := Lib.hid (ktr K0.out k1); clear k1)
    go_ret
    exact ⟨rfl, K1.out⟩
  · have z : (O == 0) = false := by simpa using h
    have z' : (O != 0) = true := bne_iff_ne.2 h
    clear h
    rw [z]
    go_enter Tryz.func62, Tryz.ntmps62
    go_wp2_with (go_at_call 34; (with_reducible refine (OX.out _).mono ?_); rintro e w1 ⟨rfl, k1⟩; have K1 := Lib.hid (ktr K0.out k1); clear k1)
    go_ret
    exact ⟨rfl, K1.out⟩
/-- two slices of the call's own that lie apart -/
def Ap (u v : Value) : Prop := u.ownBlock = none ∨ v.ownBlock = none ∨ u.ownBlock ≠ v.ownBlock
theorem Ap.symm {u v : Value} (h : Ap u v) : Ap v u := by
  rcases h with h | h | h
  · exact .inr (.inl h)
  · exact .inl h
  · exact .inr (.inr (fun q => h q.symm))
theorem wp_append2F {ops : Array Oper} {rest : List Oper} {o : Oper} {a : Act} {Q : Exit → Act → World → Prop} (hgd : o.guard = none) (s x : Operand)
    (ho : o.op = .call { callee := .builtin .append, args := #[s, x], argTypes := #[28, 28] })
    (base : Nat) (v u : Value) (fs gs : List (List Int)) (l : List Int) (cs : Array Value) (w : World) (hs : a.eval s = v) (hown : OwnsN 10 42 w base v fs) (hou : OwnsN 10 42 w base u gs) (hap : Ap v u) (hx : a.eval x = .slice (some ⟨w.heap.size, 0, none⟩) 1 1)
    (hl : cs.toList = rowN 10 l) (hlen : fs.length + 1 ≤ 100000) (hbase : base ≤ w.heap.size)
    (h : ∀ v' w', OwnsN 10 42 w' base v' (fs ++ [l]) → OwnsN 10 42 w' base u gs → Ap v' u → Below base w w' → wpList Tryz.prog ops Q rest (a.put o.dst v') w') : wpList Tryz.prog ops Q (o :: rest) a (w.alloc (.cells cs 42)) := by
  obtain ⟨i0, hi, hz0, hz1, hz2⟩ := info_parts Tryz.infoFail
  refine wpList_append_lies _ hgd s x 28 ho base 42 i0 _ 10 80 Tryz.underlying28 hi hz0 hz1 hz2 rfl (by decide) v _ _ hs (hown.alloc _) ⟨w.heap.size, 0, none⟩ 1 1 (rowN 10 l) hx (rowN_len 10 l) (by rw [← hl]; exact World.news_of_block (heap_alloc_new w _)) ?_ (by decide) ?_ ?_ ?_ (w.heap.size + 1) (by simp) ?_
  · intro u hu
    obtain ⟨j, _, rfl⟩ := List.mem_map.1 hu
    rfl
  · unfold maxLen; omega
  · omega
  · rw [World.size_alloc]; omega
  · intro g cap w' h1 h2 h3 h4
    have hr : u.ownBlock = none ∨ u.ownBlock ≠ v.ownBlock := by
      rcases hap with q | q | q
      · by_cases e : u.ownBlock = none
        · exact .inl e
        · exact .inr (fun e' => e (e'.trans q))
      · exact .inl q
      · exact .inr (fun e' => q e'.symm)
    refine h _ w' ?_ ((hou.alloc _).other h2 hr) ?_ ?_
    · unfold OwnsN
      rw [List.length_append, flatN_append]
      have : flatN 10 [l] = rowN 10 l := by simp [flatN]
      rw [this]
      exact h1
    · by_cases e : u.ownBlock = none
      · exact .inr (.inl e)
      · refine .inr (.inr (fun q => ?_))
        have q' : u.ownBlock = some g := q.symm
        rcases h3 with h3 | h3
        · rcases hr with r | r
          · exact e r
          · exact r (q'.trans h3.symm)
        · have := hou.block_lt g q'
          omega
    · exact ((Below.refl base w).alloc hbase _).grown h2 (by rw [World.size_alloc]; omega) hown.ge
/-- the fails of which nothing is open, and the others -/
def donF (fs : List (List Int)) : List (List Int) := fs.filter (fun l => opL l == 0)
def opnF (fs : List (List Int)) : List (List Int) := fs.filter (fun l => !(opL l == 0))
theorem take_s {fs : List (List Int)} {k : Nat} (h : k < fs.length) : fs.take (k + 1) = fs.take k ++ [fs.getD k []] := by
  rw [List.take_add_one, List.getElem?_eq_getElem h, List.getD_eq_getElem?_getD, List.getElem?_eq_getElem h]; rfl
theorem don_s {fs : List (List Int)} {k : Nat} (h : k < fs.length) : donF (fs.take (k + 1)) = donF (fs.take k) ++ (if (opL (fs.getD k []) == 0) = true then [fs.getD k []] else []) := by
  unfold donF
  rw [take_s h, List.filter_append, List.filter_cons, List.filter_nil]
theorem opn_s {fs : List (List Int)} {k : Nat} (h : k < fs.length) : opnF (fs.take (k + 1)) = opnF (fs.take k) ++ (if (opL (fs.getD k []) == 0) = true then [] else [fs.getD k []]) := by
  unfold opnF
  rw [take_s h, List.filter_append, List.filter_cons, List.filter_nil]
  congr 1
  cases (opL (fs.getD k []) == 0) <;> rfl
theorem don_len (fs : List (List Int)) (k : Nat) : (donF (fs.take k)).length ≤ k := Nat.le_trans (List.length_filter_le _ _) (List.length_take_le k fs)
theorem opn_len (fs : List (List Int)) (k : Nat) : (opnF (fs.take k)).length ≤ k := Nat.le_trans (List.length_filter_le _ _) (List.length_take_le k fs)

set_option maxRecDepth 100000 in
set_option maxHeartbeats 8000000 in
theorem split_run (v : Value) (fs : List (List Int)) (w : World) (hr : ReadsF w v fs) (h60 : fs.length ≤ 90000) :
    Calls Tryz.prog 61 #[v, .func (.func 62) #[] #[]] w fun e w' => ∃ yv nv, e = .returned (.tuple #[yv, nv]) ∧ OwnsN 10 42 w' w.heap.size yv (donF fs) ∧ OwnsN 10 42 w' w.heap.size nv (opnF fs) ∧ Kpt w w' := by
  obtain ⟨a, cap, rfl, hm, -, hc⟩ := hr
  unfold maxLen at hm
  have HC := Lib.hid hc
  obtain ⟨n, hn⟩ : ∃ n, n = fs.length := ⟨_, rfl⟩
  have DS := Lib.hid (fun k (h : k < fs.length) => don_s h)
  have OS := Lib.hid (fun k (h : k < fs.length) => opn_s h)
  have DN : Hid (donF (fs.take n) = donF fs) := by unfold Hid; rw [hn, List.take_length]
  have ON : Hid (opnF (fs.take n) = opnF fs) := by unfold Hid; rw [hn, List.take_length]
  have DL := Lib.hid (don_len fs)
  have OL := Lib.hid (opn_len fs)
  rw [← hn] at h60 HC hm DS OS ⊢
  clear hc hn
  have HA := Lib.hid h60
  go_enter Tryz.func61, Tryz.ntmps61
  go_wp2
  go_loopw [6, 7, 12] (fun yv nv ii wr => ∃ k : Nat, k ≤ n ∧ ii = .int .i64 (k : Int) ∧ Hid (OwnsN 10 42 wr w.heap.size yv (donF (fs.take k))) ∧ Hid (OwnsN 10 42 wr w.heap.size nv (opnF (fs.take k))) ∧ Hid (Ap yv nv) ∧ Hid (Kpt w wr)) (fun yv nv ii _ => n - (intOf ii).toNat)
  case atStart => exact ⟨0, Nat.zero_le _, rfl, OwnsN.nil _ _ _ _, OwnsN.nil _ _ _ _, .inl rfl, Kpt.refl w⟩
  case round =>
    obtain ⟨k, hk, rfl, HY, HN, HP, HK⟩ := hrel
    by_cases hlt : k < n
    · obtain ⟨g, off, rfl, hfl⟩ := HC.out k hlt
      have hf := hfl.kpt HK.out
      have ds := DS.out k hlt
      have os := OS.out k hlt
      have c0 : wr.cell? ⟨g, off + k * 10, none⟩ = _ := hf 0 (by omega)
      have c1 : wr.cell? ⟨g, off + k * 10 + 1, none⟩ = _ := hf 1 (by omega)
      have c2 : wr.cell? ⟨g, off + k * 10 + 2, none⟩ = _ := hf 2 (by omega)
      have c3 : wr.cell? ⟨g, off + k * 10 + 3, none⟩ = _ := hf 3 (by omega)
      have c4 : wr.cell? ⟨g, off + k * 10 + 4, none⟩ = _ := hf 4 (by omega)
      have c5 : wr.cell? ⟨g, off + k * 10 + 5, none⟩ = _ := hf 5 (by omega)
      have c6 : wr.cell? ⟨g, off + k * 10 + 6, none⟩ = _ := hf 6 (by omega)
      have c7 : wr.cell? ⟨g, off + k * 10 + 7, none⟩ = _ := hf 7 (by omega)
      have c8 : wr.cell? ⟨g, off + k * 10 + 8, none⟩ = _ := hf 8 (by omega)
      have c9 : wr.cell? ⟨g, off + k * 10 + 9, none⟩ = _ := hf 9 (by omega)
      generalize fs.getD k [] = l at *
      have TI := Lib.hid (fun w' => tidy1_run (l.getD 0 0) (l.getD 1 0) (l.getD 2 0) (l.getD 3 0) (l.getD 4 0) (l.getD 5 0) (l.getD 6 0) (l.getD 7 0) (l.getD 8 0) (l.getD 9 0) w')
      change Hid (∀ w', Calls Tryz.prog 62 _ w' fun e w'' => e = .returned (.bool (opL l == 0)) ∧ Kpt w' w'') at TI
      have RL : Hid (rowN 10 l = [.int .i64 (l.getD 0 0), .int .i64 (l.getD 1 0), .int .i64 (l.getD 2 0), .int .i64 (l.getD 3 0), .int .i64 (l.getD 4 0), .int .i64 (l.getD 5 0), .int .i64 (l.getD 6 0), .int .i64 (l.getD 7 0), .int .i64 (l.getD 8 0), .int .i64 (l.getD 9 0)]) := rfl
      generalize (opL l == 0) = q at *
      generalize l.getD 0 0 = i at *
      generalize l.getD 1 0 = f at *
      generalize l.getD 2 0 = t at *
      generalize l.getD 3 0 = c at *
      generalize l.getD 4 0 = p at *
      generalize l.getD 5 0 = d at *
      generalize l.getD 6 0 = u at *
      generalize l.getD 7 0 = x at *
      generalize l.getD 8 0 = b at *
      generalize l.getD 9 0 = y at *
      have HS := Lib.hid HK.out.size
      have ZB : Hid (Blk (wr.alloc (.cells #[.int .i64 0, .int .i64 0, .int .i64 0, .int .i64 0, .int .i64 0, .int .i64 0, .int .i64 0, .int .i64 0, .int .i64 0, .int .i64 0] 42)) wr.heap.size #[.int .i64 0, .int .i64 0, .int .i64 0, .int .i64 0, .int .i64 0, .int .i64 0, .int .i64 0, .int .i64 0, .int .i64 0, .int .i64 0] 42) := Blk.made _ _ _
      have KZ : Hid (Kpt wr (wr.alloc (.cells #[.int .i64 0, .int .i64 0, .int .i64 0, .int .i64 0, .int .i64 0, .int .i64 0, .int .i64 0, .int .i64 0, .int .i64 0, .int .i64 0] 42))) := (Kpt.refl _).alloc _
      have y1 : decide ((k : Int) < (n : Int)) = true := decide_eq_true (by omega)
      have DLk := Lib.hid (DL.out k)
      have OLk := Lib.hid (OL.out k)
      clear hfl hf DS OS DL OL
      cases q with
      | true =>
        have ds' : Hid (donF (fs.take (k + 1)) = donF (fs.take k) ++ [l]) := ds
        have os' : Hid (opnF (fs.take (k + 1)) = opnF (fs.take k)) := os.trans (List.append_nil _)
        clear ds os
        go_wp2_with (first
          | (refine wp_storeF rfl (.tmp 9) (.tmp 15) rfl wr.heap.size _ _ rfl rfl ZB.out rfl rfl (by simp [Value.oneCell']) ?_; intro w9 r9 k9 o9; have R9 := Lib.hid r9; have K9 := Lib.hid (k9 _ _ KZ.out (Nat.le_refl _)); clear r9 k9 o9)
          | (refine wp_loadF rfl (.tmp 9) rfl wr.heap.size _ rfl R9.out rfl ?_)
          | (go_at_call 62; (with_reducible refine (TI.out _).mono ?_); rintro e w10 ⟨rfl, k10⟩; have KK10 : Hid (Kpt wr w10) := ktr K9.out k10; have R10 := Lib.hid (R9.out.kpt k10); have K10 : Hid (Kpt w w10) := ktr HK.out KK10.out; have Y10 := Lib.hid (HY.out.kpt KK10.out); have N10 := Lib.hid (HN.out.kpt KK10.out); clear k10)
          | (refine wp_loadF rfl (.tmp 9) rfl wr.heap.size _ rfl R10.out rfl ?_)
          | (at_builtin; refine wp_append2F rfl (.tmp 19) (.tmp 21) rfl w.heap.size _ _ _ _ l _ w10 rfl Y10.out N10.out HP.out rfl RL.out.symm (by have := DLk.out; have := HA.out; omega) K10.out.size ?_; intro v' w11 h1 h2 h3 h4; rw [← ds'.out] at h1; rw [← os'.out] at h2; have Y11 := Lib.hid h1; have N11 := Lib.hid h2; have P11 := Lib.hid h3; have K11 : Hid (Kpt w w11) := Below.trans K10.out h4; clear h1 h2 h3 h4))
        go_roundw
        case rel => exact ⟨k + 1, by omega, by go_num, Y11.out, N11.out, P11.out, K11.out⟩
        case measure => simp [intOf]; omega
      | false =>
        have ds' : Hid (donF (fs.take (k + 1)) = donF (fs.take k)) := ds.trans (List.append_nil _)
        have os' : Hid (opnF (fs.take (k + 1)) = opnF (fs.take k) ++ [l]) := os
        clear ds os
        go_wp2_with (first
          | (refine wp_storeF rfl (.tmp 9) (.tmp 15) rfl wr.heap.size _ _ rfl rfl ZB.out rfl rfl (by simp [Value.oneCell']) ?_; intro w9 r9 k9 o9; have R9 := Lib.hid r9; have K9 := Lib.hid (k9 _ _ KZ.out (Nat.le_refl _)); clear r9 k9 o9)
          | (refine wp_loadF rfl (.tmp 9) rfl wr.heap.size _ rfl R9.out rfl ?_)
          | (go_at_call 62; (with_reducible refine (TI.out _).mono ?_); rintro e w10 ⟨rfl, k10⟩; have KK10 : Hid (Kpt wr w10) := ktr K9.out k10; have R10 := Lib.hid (R9.out.kpt k10); have K10 : Hid (Kpt w w10) := ktr HK.out KK10.out; have Y10 := Lib.hid (HY.out.kpt KK10.out); have N10 := Lib.hid (HN.out.kpt KK10.out); clear k10)
          | (refine wp_loadF rfl (.tmp 9) rfl wr.heap.size _ rfl R10.out rfl ?_)
          | (at_builtin; refine wp_append2F rfl (.tmp 23) (.tmp 25) rfl w.heap.size _ _ _ _ l _ w10 rfl N10.out Y10.out HP.out.symm rfl RL.out.symm (by have := OLk.out; have := HA.out; omega) K10.out.size ?_; intro v' w11 h1 h2 h3 h4; rw [← os'.out] at h1; rw [← ds'.out] at h2; have N11 := Lib.hid h1; have Y11 := Lib.hid h2; have P11 : Hid (Ap _ _) := Ap.symm h3; have K11 : Hid (Kpt w w11) := Below.trans K10.out h4; clear h1 h2 h3 h4))
        go_roundw
        case rel => exact ⟨k + 1, by omega, by go_num, Y11.out, N11.out, P11.out, K11.out⟩
        case measure => simp [intOf]; omega
    · have hkl : k = n := by omega
      subst hkl
      have y1 : decide ((k : Int) < (k : Int)) = false := decide_eq_false (by omega)
      have hy := HY.out
      have hn := HN.out
      rw [DN.out] at hy
      rw [ON.out] at hn
      have HY2 := Lib.hid hy
      have HN2 := Lib.hid hn
      clear hy hn
      go_wp2
      go_ret2
      exact ⟨_, _, rfl, HY2.out, HN2.out, HK.out⟩

end Go.Proofs.YthaahebggboliaaGreat

-- CycO
namespace Go.Proofs.YthaahebggboliaaGreat
open Go.RowKit Go.Sort Go.Lib
set_option linter.unusedVariables false

/-- what Tidy answers -/
def TdRes (w : World) (E T : Int) (fs : List (List Int)) (b : List (Int × Int × Int)) (ds : List (List Int)) (e : Ending) (w' : World) : Prop :=
  ∃ fv bv dv, e = .returned (.tuple #[.agg #[.int .i64 T, fv, bv], dv, .int .i64 E]) ∧ OwnsN 10 42 w' w.heap.size fv fs ∧ OwnsP w' w.heap.size bv b ∧ OwnsN 10 42 w' w.heap.size dv ds ∧ Kpt w w'
def tdT (T : Int) (fs : List (List Int)) (b : List (Int × Int × Int)) : Int := if wldE T fs b = 0 then T else 0
def tdF (T : Int) (fs : List (List Int)) (b : List (Int × Int × Int)) : List (List Int) := if wldE T fs b = 0 then opnF fs else []
def tdB (T : Int) (fs : List (List Int)) (b : List (Int × Int × Int)) : List (Int × Int × Int) := if wldE T fs b = 0 then b else []
def tdD (T : Int) (fs : List (List Int)) (b : List (Int × Int × Int)) : List (List Int) := if wldE T fs b = 0 then donF fs else []
theorem tdRes_E {w w' : World} {T E : Int} {fs : List (List Int)} {b : List (Int × Int × Int)} (h : wldE T fs b = E) (h0 : E ≠ 0) (k : Kpt w w') : TdRes w (wldE T fs b) (tdT T fs b) (tdF T fs b) (tdB T fs b) (tdD T fs b) (.returned (.tuple #[.agg #[.int .i64 0, .slice none 0 0, .slice none 0 0], .slice none 0 0, .int .i64 E])) w' := by
  subst h
  unfold tdT tdF tdB tdD
  rw [if_neg h0, if_neg h0, if_neg h0, if_neg h0]
  exact ⟨_, _, _, rfl, OwnsN.nil _ _ _ _, OwnsP.nil _ _, OwnsN.nil _ _ _ _, k⟩
/-- a clerk's fails exchanged -/
theorem clerk_set {w : World} {base g : Nat} {T : Int} {fv fv' bv pv : Value} {fs fs' : List (List Int)} {b p : List (Int × Int × Int)} (h : ClerkIs w base g T fv bv pv fs b p) (of : OwnsN 10 42 w base fv' fs') : ClerkIs (w.setCell ⟨g, 1, none⟩ fv') base g T fv' bv pv fs' b p ∧ Below base w (w.setCell ⟨g, 1, none⟩ fv') := by
  have b2 := h.blk
  exact ⟨⟨h.ge, Blk.put b2 1 _, row_away of b2 (by decide) _ _, row_away h.ob b2 (by decide) _ _, row_away h.op b2 (by decide) _ _, h.ap⟩, Below.setCell (Below.refl base w) h.ge _⟩

set_option maxRecDepth 100000 in
set_option maxHeartbeats 4000000 in
theorem tidy_any (T : Int) (fv bv : Value) (fs : List (List Int)) (b : List (Int × Int × Int)) (w : World) (hF : ReadsF w fv fs) (hn : NilC fv) (hb : ReadsP w bv b) :
    Calls Tryz.prog 22 #[.agg #[.int .i64 T, fv, bv]] w (TdRes w (wldE T fs b) (tdT T fs b) (tdF T fs b) (tdB T fs b) (tdD T fs b)) := by
  have WC := fun w' (k : Kpt w w') => wcheck_run T fv bv fs b w' (hF.kpt k) (hb.kpt k)
  have K0 : Hid (Kpt w ((w.alloc (.cells #[.int .i64 T, fv, bv] 31)).alloc (.cells #[.int .i64 0, .slice none 0 0, .slice none 0 0] 31))) := ((Kpt.refl w).alloc _).alloc _
  have B6 : Hid (Blk ((w.alloc (.cells #[.int .i64 T, fv, bv] 31)).alloc (.cells #[.int .i64 0, .slice none 0 0, .slice none 0 0] 31)) (w.heap.size + 1) #[.int .i64 0, .slice none 0 0, .slice none 0 0] 31) := by
    have := Blk.made (w.alloc (.cells #[.int .i64 T, fv, bv] 31)) #[.int .i64 0, .slice none 0 0, .slice none 0 0] 31
    rwa [World.size_alloc] at this
  obtain ⟨af, capf, rfl, -⟩ := _root_.id hF
  obtain ⟨ab, capb, rfl, -⟩ := _root_.id hb
  by_cases h2 : wldE T fs b = 0
  · have EN := Lib.hid (fun w' (k : Kpt w w') => engage_ok T _ _ fs b w' (hF.kpt k) hn (hb.kpt k) h2)
    have FB := Lib.hid (flB_of hF)
    have h60 := (checksE_0 (wld_0 h2).2.1).1
    have SP := Lib.hid (fun v w' (h : ReadsF w' v fs) => split_run v fs w' h (by omega))
    have e1 : tdT T fs b = T := if_pos h2
    have e2 : tdF T fs b = opnF fs := if_pos h2
    have e3 : tdB T fs b = b := if_pos h2
    have e4 : tdD T fs b = donF fs := if_pos h2
    rw [h2, e1, e2, e3, e4]
    clear h2 WC hF hn hb e1 e2 e3 e4 h60
    generalize opnF fs = os at *
    generalize donF fs = ds at *
    go_enter Tryz.func22, Tryz.ntmps22
    go_upto_region 6 with (first
      | (go_at_call 37; (with_reducible refine (EN.out _ K0.out).mono ?_); rintro x w2 ⟨g, fv2, bv2, rfl, hc2, kk⟩; have C2 := Lib.hid hc2; have K2 := Lib.hid (ktr K0.out kk); have K02 := Lib.hid kk; have s1' : World.cell? w2 ⟨g, 1, none⟩ = some fv2 := C2.out.blk.cell 1; have RF := Lib.hid (C2.out.of.readsF FB.out); obtain ⟨a5, n5, cap5, rfl, hn5⟩ := OwnsN.form C2.out.of; obtain ⟨a6, cap6, rfl⟩ := OwnsP.form C2.out.ob; clear hc2 kk)
      | (go_at_call 61; (with_reducible refine (SP.out _ _ RF.out).mono ?_); rintro x w3 ⟨dv, nv, rfl, od, on', kk⟩; have K03 : Hid (Kpt ((w.alloc (.cells #[.int .i64 T, .slice af fs.length capf, .slice ab b.length capb] 31)).alloc (.cells #[.int .i64 0, .slice none 0 0, .slice none 0 0] 31)) w3) := ktr K02.out kk; have C3 := Lib.hid (ClerkIs.kpt C2.out kk); have OD : Hid (OwnsN 10 42 w3 w.heap.size dv ds) := row_base od K2.out.size; have ON : Hid (OwnsN 10 42 w3 ((w.alloc (.cells #[.int .i64 T, .slice af fs.length capf, .slice ab b.length capb] 31)).alloc (.cells #[.int .i64 0, .slice none 0 0, .slice none 0 0] 31)).heap.size nv os) := row_base on' K02.out.size; obtain ⟨a7, n7, cap7, rfl, hn7⟩ := OwnsN.form on'; obtain ⟨a8, n8, cap8, rfl, hn8⟩ := OwnsN.form od; have s1 : World.cell? w3 ⟨g, 1, none⟩ = some (.slice a5 n5 cap5) := C3.out.blk.cell 1; have fz : World.frozen? w3 ⟨g, 1, none⟩ = false := Blk.frozen C3.out.blk 1; clear od on' kk s1'))
    obtain ⟨c4, b4⟩ := clerk_set C3.out ON.out
    have KB : Hid (Kpt ((w.alloc (.cells #[.int .i64 T, .slice af fs.length capf, .slice ab b.length capb] 31)).alloc (.cells #[.int .i64 0, .slice none 0 0, .slice none 0 0] 31)) (World.setCell w3 ⟨g, 1, none⟩ (.slice a7 n7 cap7))) := Below.trans K03.out b4
    have K4 : Hid (Kpt w (World.setCell w3 ⟨g, 1, none⟩ (.slice a7 n7 cap7))) := ktr K0.out KB.out
    have C4 := Lib.hid c4
    have D4 : Hid (OwnsN 10 42 (World.setCell w3 ⟨g, 1, none⟩ (.slice a7 n7 cap7)) w.heap.size (.slice a8 n8 cap8) ds) := row_away OD.out C3.out.blk (by decide) _ _
    have B64 := Lib.hid (B6.out.kpt KB.out)
    clear c4 b4 fz s1
    obtain ⟨w4, hw4⟩ : ∃ w4, World.setCell w3 ⟨g, 1, none⟩ (.slice a7 n7 cap7) = w4 := ⟨_, rfl⟩
    rw [hw4] at KB K4 C4 D4 B64
    rw [hw4]
    clear hw4
    have r0 : World.cell? w4 ⟨g, 0, none⟩ = some (.int .i64 T) := C4.out.blk.cell 0
    have r1 : World.cell? w4 ⟨g, 1, none⟩ = some (.slice a7 n7 cap7) := C4.out.blk.cell 1
    have r2 : World.cell? w4 ⟨g, 2, none⟩ = some (.slice a6 b.length cap6) := C4.out.blk.cell 2
    go_wp2_with (refine wp_storeW rfl (.tmp 2) (.tmp 35) rfl (w.heap.size + 1) _ _ rfl rfl B64.out rfl rfl (by simp [Value.oneCell']) ?_; intro w9 r9 k9 o9; have R9 := Lib.hid r9; have K9 : Hid (Kpt w w9) := Lib.hid (k9 _ _ K4.out (by omega)); have oF : Hid (OwnsN 10 42 w9 w.heap.size (.slice a7 n7 cap7) os) := row_put (row_base C4.out.of K0.out.size) B64.out o9 (by decide); have oB : Hid (OwnsP w9 w.heap.size (.slice a6 b.length cap6) b) := row_put (row_base C4.out.ob K0.out.size) B64.out o9 (by decide); have oD : Hid (OwnsN 10 42 w9 w.heap.size (.slice a8 n8 cap8) ds) := row_put D4.out B64.out o9 (by decide); clear r9 k9 o9)
    exact bodyPost_ret (v := .tuple #[.agg #[.int .i64 T, .slice a7 n7 cap7, .slice a6 b.length cap6], .slice a8 n8 cap8, .int .i64 0]) (results_W3 Tryz.results22 _ _ _ _ _ _ rfl rfl rfl R9.out rfl) rfl ⟨_, _, _, rfl, oF.out, oB.out, oD.out, K9.out⟩
  · have EN := Lib.hid (fun w' (k : Kpt w w') => engage_bad T _ _ _ w' h2 ⟨_, _, _, rfl⟩ ⟨_, _, _, rfl⟩ (fun w'' k' => WC w'' (ktr k k')))
    have z0 : (wldE T fs b != 0) = true := bne_iff_ne.2 h2
    have FIN := Lib.hid (fun E w' (h : wldE T fs b = E) (k : Kpt w w') => tdRes_E h (by rw [← h]; exact h2) k)
    clear h2 WC hF hn hb
    obtain ⟨E, hE⟩ : ∃ E, wldE T fs b = E := ⟨_, rfl⟩
    have HE := Lib.hid hE
    rw [hE] at EN z0
    clear hE
    go_enter Tryz.func22, Tryz.ntmps22
    go_wp2_with (first
      | (go_at_call 37; (with_reducible refine (EN.out _ K0.out).mono ?_); rintro x w2 ⟨rfl, kk⟩; have K2 := Lib.hid (ktr K0.out kk); have B62 := Lib.hid (B6.out.kpt kk); clear kk)
      | (refine wp_storeW rfl (.tmp 2) (.tmp 16) rfl (w.heap.size + 1) _ _ rfl rfl B62.out rfl rfl (by simp [Value.oneCell']) ?_; intro w9 r9 k9 o9; have R9 := Lib.hid r9; have K9 : Hid (Kpt w w9) := Lib.hid (k9 _ _ K2.out (by omega)); clear r9 k9 o9))
    exact bodyPost_ret (v := .tuple #[.agg #[.int .i64 0, .slice none 0 0, .slice none 0 0], .slice none 0 0, .int .i64 E]) (results_W3 Tryz.results22 _ _ _ _ _ _ rfl rfl rfl R9.out rfl) rfl (FIN.out _ _ HE.out K9.out)

end Go.Proofs.YthaahebggboliaaGreat
