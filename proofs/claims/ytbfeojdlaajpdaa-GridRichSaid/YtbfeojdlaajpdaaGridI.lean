/-
  What must be of dues in any case: gridBegun answers true.
-/
import Derived.Test.YtbfeojdlaajpdaaGridH
import Derived.Test.YtbfeojdlaajpdaaSameInts
namespace Go.Proofs.Ytbfeojdlaajpdaa
open Go.RowKit
set_option linter.unusedVariables false

def ringP : List (Int × Int × Int) := [(0, 1, 10), (1, 2, 7), (2, 0, 5), (1, 0, 4)]
def hasN (n : Int) : List Int := (List.replicate 31 0).set 0 n
theorem ring_in : InP ringP := by unfold InP; decide
theorem ring_run (w : World) : Calls Try.prog 54 #[] w fun e w' => ∃ a, e = .returned (.slice a 4 4) ∧ Hid (ReadsP w' (.slice a 4 4) ringP) ∧ Kpt w w' := by
  have B := Blk.made w #[.int .i64 0, .int .i64 1, .int .i64 10, .int .i64 1, .int .i64 2, .int .i64 7, .int .i64 2, .int .i64 0, .int .i64 5, .int .i64 1, .int .i64 0, .int .i64 4] 38
  have HR : Hid (ReadsP (w.alloc (.cells #[.int .i64 0, .int .i64 1, .int .i64 10, .int .i64 1, .int .i64 2, .int .i64 7, .int .i64 2, .int .i64 0, .int .i64 5, .int .i64 1, .int .i64 0, .int .i64 4] 38)) (.slice (some ⟨w.heap.size, 0, none⟩) 4 4) ringP) := by
    refine ⟨_, 4, rfl, (fun e => by cases e), by unfold maxLen; decide, ring_in, fun j hj => ⟨w.heap.size, 0, rfl, ?_⟩⟩
    rcases (show j = 0 ∨ j = 1 ∨ j = 2 ∨ j = 3 by simp [ringP] at hj; omega) with rfl | rfl | rfl | rfl
    · exact ⟨B.cell 0, B.cell 1, B.cell 2⟩
    · exact ⟨B.cell 3, B.cell 4, B.cell 5⟩
    · exact ⟨B.cell 6, B.cell 7, B.cell 8⟩
    · exact ⟨B.cell 9, B.cell 10, B.cell 11⟩
  clear B
  go_enter Try.func54, Try.ntmps54
  go_wp2
  go_ret
  exact ⟨_, rfl, HR.out, (Kpt.refl _).alloc _⟩

/-- the way of a settlement, step by step -/
def stepB (has : List Int) (ps : List (Int × Int × Int)) (tr : List (List Nat)) : Bool :=
  tr.all fun ds => (List.range 31).all fun q => !decide ((settleF ps has ds).getD q 0 < 0) || (List.range ds.length).all fun k => !decide ((ps.getD (ds.getD k 0) default).1 = ((q : Nat) : Int)) || (List.range ds.length).any (fun j => decide (k < j) && decide ((ps.getD (ds.getD j 0) default).1 = ((q : Nat) : Int))) || tr.contains (ds.eraseIdx k)
theorem stepB_t {has : List Int} {ps : List (Int × Int × Int)} {tr : List (List Nat)} (h : stepB has ps tr = true) :
    ∀ ds ∈ tr, ∀ q, q < 31 → (settleF ps has ds).getD q 0 < 0 → ∀ k, k < ds.length → (ps.getD (ds.getD k 0) default).1 = ((q : Nat) : Int) → (∀ j, j < ds.length → k < j → (ps.getD (ds.getD j 0) default).1 ≠ ((q : Nat) : Int)) → ds.eraseIdx k ∈ tr := by
  intro ds h1 q h2 h3 k h4 h5 h6
  have a := List.all_eq_true.1 (List.all_eq_true.1 h ds h1) q (List.mem_range.2 h2)
  rw [decide_eq_true h3, Bool.not_true, Bool.false_or] at a
  have b := List.all_eq_true.1 a k (List.mem_range.2 h4)
  rw [decide_eq_true h5, Bool.not_true, Bool.false_or] at b
  rcases Bool.or_eq_true _ _ ▸ b with c | c
  · obtain ⟨j, hj, e⟩ := List.any_eq_true.1 c
    rw [Bool.and_eq_true] at e
    exact absurd (of_decide_eq_true e.2) (h6 j (List.mem_range.1 hj) (of_decide_eq_true e.1))
  · exact List.contains_iff_mem.1 c
/-- where nobody is short -/
def endB (has : List Int) (ps : List (Int × Int × Int)) (tr : List (List Nat)) (res : List Nat) : Bool :=
  tr.all fun ds => (List.range 31).any (fun q => decide ((settleF ps has ds).getD q 0 < 0)) || decide (ds = res)
theorem endB_t {has : List Int} {ps : List (Int × Int × Int)} {tr : List (List Nat)} {res : List Nat} (h : endB has ps tr res = true) : ∀ ds ∈ tr, (∀ q, q < 31 → ¬ (settleF ps has ds).getD q 0 < 0) → ds = res := by
  intro ds h1 h2
  have a := List.all_eq_true.1 h ds h1
  rcases Bool.or_eq_true _ _ ▸ a with c | c
  · obtain ⟨q, hq, e⟩ := List.any_eq_true.1 c
    exact absurd (of_decide_eq_true e) (h2 q (List.mem_range.1 hq))
  · exact of_decide_eq_true c
theorem solve_known (v vl : Value) (has : List Int) (ps : List (Int × Int × Int)) (tr : List (List Nat)) (res : List Nat) (n : Nat) (w : World) (hr : Reads w v has) (hp : ReadsP w vl ps) (hg : gridE has ps = 0) (h0 : List.range ps.length ∈ tr)
    (hs : ∀ ds ∈ tr, ∀ q, q < 31 → (settleF ps has ds).getD q 0 < 0 → ∀ k, k < ds.length → (ps.getD (ds.getD k 0) default).1 = ((q : Nat) : Int) → (∀ j, j < ds.length → k < j → (ps.getD (ds.getD j 0) default).1 ≠ ((q : Nat) : Int)) → ds.eraseIdx k ∈ tr)
    (he : ∀ ds ∈ tr, (∀ q, q < 31 → ¬ (settleF ps has ds).getD q 0 < 0) → ds = res) (hn : res.length = n) :
    Calls Try.prog 14 #[v, vl] w fun e w' => ∃ g cap, e = .returned (.tuple #[.slice (some ⟨g, 0, none⟩) n cap, .int .i64 0]) ∧ Hid (Reads w' (.slice (some ⟨g, 0, none⟩) n cap) (ints res)) ∧ Hid (Kpt w w') := by
  refine (solve_run v vl has ps (fun ds => ds ∈ tr) w hr hp hg h0 fun ds q k h1 _ h2 h3 h4 h5 h6 => hs ds h1 q h2 h3 k h4 h5 fun j a b => h6 j b a).mono ?_
  rintro e w' ⟨⟨ds, h1, h2, h3, g, cap, rfl, hc, hgw, ho⟩, hk⟩
  obtain rfl := he ds h1 h3
  have h60 := incN_len h2.1 h2.2 (Nat.zero_le _)
  have hl := hp.len
  unfold maxLen at hl
  have := ho.reads (by rw [ints_len]; unfold maxLen; omega) cap
  rw [ints_len, hn] at this
  rw [hn]
  exact ⟨g, cap, rfl, this, hk⟩

theorem gb_1 (v vl : Value) (w : World) (hr : Reads w v (hasN 3)) (hp : ReadsP w vl ringP) : Calls Try.prog 14 #[v, vl] w fun e w' => ∃ g cap, e = .returned (.tuple #[.slice (some ⟨g, 0, none⟩) 0 cap, .int .i64 0]) ∧ Hid (Reads w' (.slice (some ⟨g, 0, none⟩) 0 cap) (ints [])) ∧ Hid (Kpt w w') :=
  solve_known v vl (hasN 3) ringP [[0, 1, 2, 3], [0, 1, 2], [1, 2], [2], []] [] 0 w hr hp (by decide +kernel) (by decide) (stepB_t (by decide +kernel)) (endB_t (by decide +kernel)) rfl
theorem gb_4 (v vl : Value) (w : World) (hr : Reads w v (hasN 5)) (hp : ReadsP w vl ringP) : Calls Try.prog 14 #[v, vl] w fun e w' => ∃ g cap, e = .returned (.tuple #[.slice (some ⟨g, 0, none⟩) 3 cap, .int .i64 0]) ∧ Hid (Reads w' (.slice (some ⟨g, 0, none⟩) 3 cap) (ints [0, 1, 2])) ∧ Hid (Kpt w w') :=
  solve_known v vl (hasN 5) ringP [[0, 1, 2, 3], [0, 1, 2]] [0, 1, 2] 3 w hr hp (by decide +kernel) (by decide) (stepB_t (by decide +kernel)) (endB_t (by decide +kernel)) rfl
theorem gb_2 (v vl vd : Value) (w : World) (hr : Reads w v (hasN 3)) (hp : ReadsP w vl ringP) (hd : Reads w vd (ints [0, 1, 2])) : Calls Try.prog 15 #[v, vl, vd] w fun e w' => e = .returned (.tuple #[.slice none 0 0, .int .i64 8]) ∧ Kpt w w' := by
  refine (after_ds v vl vd (hasN 3) ringP [0, 1, 2] w hr hp hd (by decide +kernel) (incN_range 3) (by decide)).mono ?_
  rintro e w' ⟨⟨_, rfl⟩ | ⟨h, _⟩, hk⟩
  · exact ⟨rfl, hk⟩
  · exact absurd h (by decide +kernel)
theorem gb_3 (v vl vd : Value) (w : World) (hr : Reads w v (hasN 5)) (hp : ReadsP w vl ringP) (hd : Reads w vd (ints [0, 1, 2])) : Calls Try.prog 15 #[v, vl, vd] w fun e w' => ∃ g cap, e = .returned (.tuple #[.slice (some ⟨g, 0, none⟩) 31 cap, .int .i64 0]) ∧ Hid (w'.cell? ⟨g, 0, none⟩ = some (.int .i64 0) ∧ w'.cell? ⟨g, 1, none⟩ = some (.int .i64 3) ∧ w'.cell? ⟨g, 2, none⟩ = some (.int .i64 2)) ∧ Hid (Kpt w w') := by
  refine (after_ds v vl vd (hasN 5) ringP [0, 1, 2] w hr hp hd (by decide +kernel) (incN_range 3) (by decide)).mono ?_
  rintro e w' ⟨⟨h, _⟩ | ⟨_, g, cap, rfl, _, _, ho⟩, hk⟩
  · exact absurd h (by decide +kernel)
  · have hl : (settleF ringP (hasN 5) [0, 1, 2]).length = 31 := by decide +kernel
    refine ⟨g, cap, rfl, ⟨?_, ?_, ?_⟩, hk⟩
    · exact ho.cell (j := 0) (by omega)
    · exact ho.cell (j := 1) (by omega)
    · exact ho.cell (j := 2) (by omega)
theorem gb_5 (v : Value) (w : World) (hr : Reads w v [5, 0, 0]) : Calls Try.prog 14 #[v, .slice none 0 0] w fun e w' => e = .returned (.tuple #[.slice none 0 0, .int .i64 1]) ∧ Kpt w w' :=
  solve_bad v _ [5, 0, 0] [] w hr (readsP_nil w none 0 fun _ => rfl) (by decide)

theorem Row.kpt {w w' : World} {g : Nat} {zs : List Int} (h : Row w g zs) (k : Kpt w w') : Row w' g zs := h.block (k.block g h.lt)
theorem has_reads {w : World} {g : Nat} {n : Int} (h : Row w g (hasN n)) : Reads w (.slice (some ⟨g, 0, none⟩) 31 31) (hasN n) := by
  have hl : (hasN n).length = 31 := by simp [hasN]
  have := h.reads (by rw [hl]; unfold maxLen; omega) 31
  rwa [hl] at this
theorem has_reads3 {w : World} {g : Nat} (h : Row w g (hasN 5)) : Reads w (.slice (some ⟨g, 0, none⟩) 3 31) [5, 0, 0] := by
  refine reads_mk rfl (by unfold maxLen; decide) fun j hj => ?_
  rw [Nat.zero_add]
  rcases (show j = 0 ∨ j = 1 ∨ j = 2 by simp at hj; omega) with rfl | rfl | rfl
  · exact h.cell (j := 0) (by decide)
  · exact h.cell (j := 1) (by decide)
  · exact h.cell (j := 2) (by decide)
theorem idx3 (w : World) : Reads (w.alloc (.cells #[.int .i64 0, .int .i64 1, .int .i64 2] 3)) (.slice (some ⟨w.heap.size, 0, none⟩) 3 3) (ints [0, 1, 2]) := by
  have B := Blk.made w #[.int .i64 0, .int .i64 1, .int .i64 2] 3
  refine reads_mk rfl (by unfold maxLen; decide) fun j hj => ?_
  rw [Nat.zero_add]
  rcases (show j = 0 ∨ j = 1 ∨ j = 2 by simp [ints] at hj; omega) with rfl | rfl | rfl
  · exact B.cell 0
  · exact B.cell 1
  · exact B.cell 2
theorem Row.five {w : World} {g : Nat} (h : Row w g (hasN 3)) : Row (w.setCell ⟨g, 0, none⟩ (.int .i64 5)) g (hasN 5) := by
  have := h.put 0 5
  rwa [show (hasN 3).set 0 5 = hasN 5 by decide] at this
def cells3 (w : World) (g : Nat) : Prop := w.cell? ⟨g, 0, none⟩ = some (.int .i64 0) ∧ w.cell? ⟨g, 1, none⟩ = some (.int .i64 3) ∧ w.cell? ⟨g, 2, none⟩ = some (.int .i64 2)
theorem cells3.kpt {w w' : World} {g : Nat} (h : cells3 w g) (k : Kpt w w') : cells3 w' g := ⟨k.cell h.1, k.cell h.2.1, k.cell h.2.2⟩

set_option maxRecDepth 100000 in
set_option maxHeartbeats 4000000 in
theorem gridBegun (w : World) : Calls Try.prog 20 #[] w fun e w' => e = .returned (.bool true) ∧ Kpt w w' := by
  have MK := run_zeros w 31 (by omega)
  rw [show ((31 : Nat) : Int) = 31 from rfl] at MK
  have RW := Row.made w 31
  have G0 : Hid (Kpt w (w.alloc (.cells (Array.replicate 31 (Value.int .i64 0)) 3))) := (Kpt.refl w).alloc _
  obtain ⟨B, hB⟩ : ∃ B, B = w.heap.size := ⟨_, rfl⟩
  have HW : Hid (w.heap.size ≤ B) := by unfold Hid; omega
  rw [← hB] at MK RW
  clear hB
  generalize w.alloc (.cells (Array.replicate 31 (Value.int .i64 0)) 3) = W1 at MK RW G0
  have c0 : W1.cell? ⟨B, 0, none⟩ = some (.int .i64 0) := RW.cell (j := 0) (by simp)
  have f0 := RW.frozen 0
  have RH : Hid (Row (W1.setCell ⟨B, 0, none⟩ (.int .i64 3)) B (hasN 3)) := RW.put 0 3
  have G : Hid (Kpt w (W1.setCell ⟨B, 0, none⟩ (.int .i64 3))) := Kpt.setCell G0.out HW.out _
  have HB : Hid True := trivial
  have R4 : Hid True := trivial
  clear RW G0
  go_enter Try.func20, Try.ntmps20
  go_wp2_with (first
    | (go_at_call 54; (with_reducible refine (ring_run _).mono ?_); rintro e wt ⟨at', rfl, HT, kt⟩; have G := Lib.hid (ktr G.out kt); have RH := Lib.hid (Row.kpt RH.out kt); (try have HB := Lib.hid (cells3.kpt HB.out kt)); clear kt)
    | (go_at_call 14; (with_reducible refine (gb_1 _ _ _ (has_reads RH.out) HT.out).mono ?_); rintro e w1 ⟨g1, cap1, rfl, _, k1⟩; have G := Lib.hid (ktr G.out k1.out); have RH := Lib.hid (Row.kpt RH.out k1.out); clear k1)
    | (go_at_call 15; (with_reducible refine (gb_2 _ _ _ _ (has_reads (Row.kpt RH.out ((Kpt.refl _).alloc _))) (ReadsP.kpt HT.out ((Kpt.refl _).alloc _)) (idx3 _)).mono ?_); rintro e w2 ⟨rfl, k2⟩; have RX := Lib.hid (Row.kpt (Row.kpt RH.out ((Kpt.refl _).alloc _)) k2); have c5 : w2.cell? ⟨B, 0, none⟩ = some (.int .i64 3) := RX.out.cell (j := 0) (by decide); have f5 := RX.out.frozen 0; have G := Lib.hid (Kpt.setCell (ktr (G.out.alloc _) k2) HW.out (p := ⟨B, 0, none⟩) (.int .i64 5)); have RH := Lib.hid (Row.five RX.out); clear k2)
    | (go_at_call 15; (with_reducible refine (gb_3 _ _ _ _ (has_reads (Row.kpt RH.out ((Kpt.refl _).alloc _))) (ReadsP.kpt HT.out ((Kpt.refl _).alloc _)) (idx3 _)).mono ?_); rintro e w3 ⟨g3, cap3, rfl, HB, k3⟩; have G := Lib.hid (ktr (G.out.alloc _) k3.out); have RH := Lib.hid (Row.kpt (Row.kpt RH.out ((Kpt.refl _).alloc _)) k3.out); clear k3)
    | (go_at_call 14; (with_reducible refine (gb_4 _ _ _ (has_reads RH.out) HT.out).mono ?_); rintro e w4 ⟨g4, cap4, rfl, R4, k4⟩; have G := Lib.hid (ktr G.out k4.out); have RH := Lib.hid (Row.kpt RH.out k4.out); have HB := Lib.hid (cells3.kpt HB.out k4.out); clear k4)
    | (go_at_call 14; (with_reducible refine (gb_5 _ _ (has_reads3 RH.out)).mono ?_); rintro e w5 ⟨rfl, k5⟩; have G := Lib.hid (ktr G.out k5); have R4 := Lib.hid (Reads.kpt R4.out k5); obtain ⟨d0, d1, d2⟩ := cells3.kpt HB.out k5; clear k5)
    | (go_at_call 22; (with_reducible refine (sameI_run _ _ (ints [0, 1, 2]) _ (Reads.kpt R4.out ((Kpt.refl _).alloc _)) (idx3 _)).mono ?_); rintro e w6 ⟨rfl, k6⟩; have G := Lib.hid (ktr (G.out.alloc _) k6); clear k6))
  go_ret
  exact ⟨rfl, G.out⟩

end Go.Proofs.Ytbfeojdlaajpdaa
