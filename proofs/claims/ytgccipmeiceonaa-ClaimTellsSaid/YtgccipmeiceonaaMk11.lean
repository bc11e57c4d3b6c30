/-
  Merged: FailE, FailF.
-/
import Derived.Test.YtgccipmeiceonaaMk7
import Derived.Test.YtgccipmeiceonaaMk10
-- FailE
namespace Go.Proofs.Ytgccipmeiceonaa
open Go.RowKit Go.Maps
set_option linter.unusedVariables false

/-- a fail lies at this address: ten ints -/
def FlAt (w : World) (g off : Nat) (l : List Int) : Prop := ∀ j, j < 10 → w.cell? ⟨g, off + j, none⟩ = some (.int .i64 (l.getD j 0))
theorem FlAt.kpt {w w' : World} {g off : Nat} {l : List Int} (h : FlAt w g off l) (k : Kpt w w') : FlAt w' g off l := fun j hj => k.cell (h j hj)
def FlB (l : List Int) : Prop := ∀ j, j < 10 → -9223372036854775808 ≤ l.getD j 0 ∧ l.getD j 0 ≤ 9223372036854775807
/-- the slice value v reads as these fails -/
def ReadsF (w : World) (v : Value) (fs : List (List Int)) : Prop :=
  ∃ (a : Option Addr) (cap : Nat), v = .slice a fs.length cap ∧ fs.length ≤ maxLen ∧ (∀ l ∈ fs, FlB l) ∧ ∀ k, k < fs.length → ∃ g off, a = some ⟨g, off, none⟩ ∧ FlAt w g (off + k * 10) (fs.getD k [])
theorem ReadsF.kpt {w w' : World} {v : Value} {fs : List (List Int)} (h : ReadsF w v fs) (k : Kpt w w') : ReadsF w' v fs := by
  obtain ⟨a, cap, rfl, hm, hb, hc⟩ := h
  refine ⟨a, cap, rfl, hm, hb, fun j hj => ?_⟩
  obtain ⟨g, off, rfl, h'⟩ := hc j hj
  exact ⟨g, off, rfl, h'.kpt k⟩
theorem getF_mem {fs : List (List Int)} {k : Nat} (hk : k < fs.length) : fs.getD k [] ∈ fs := by
  rw [List.getD_eq_getElem?_getD, List.getElem?_eq_getElem hk]; simp
/-- the error of a fail, told as a list -/
def failEL (l : List Int) : Int := failE (l.getD 0 0) (l.getD 1 0) (l.getD 2 0) (l.getD 3 0) (l.getD 4 0) (l.getD 5 0) (l.getD 6 0) (l.getD 7 0) (l.getD 8 0) (l.getD 9 0)
/-- the error of the first fail that stands wrong, or whose number was there before -/
def idsE (ids : List Int) : List (List Int) → Int
  | [] => 0
  | l :: fs => if failEL l ≠ 0 then failEL l else if l.getD 0 0 ∈ ids then 6 else idsE (ids ++ [l.getD 0 0]) fs
def checksE (fs : List (List Int)) : Int := if 60 < fs.length then 2 else idsE [] fs
def idsOf (fs : List (List Int)) : List Int := fs.map fun l => l.getD 0 0
theorem drop_at {fs : List (List Int)} {k : Nat} (h : k < fs.length) : fs.drop k = fs.getD k [] :: fs.drop (k + 1) := by
  rw [List.drop_eq_getElem_cons h, List.getD_eq_getElem?_getD, List.getElem?_eq_getElem h]; rfl
theorem idsOf_s {fs : List (List Int)} {k : Nat} (h : k < fs.length) : idsOf (fs.take (k + 1)) = idsOf (fs.take k) ++ [(fs.getD k []).getD 0 0] := by
  unfold idsOf
  rw [List.take_add_one, List.getElem?_eq_getElem h, List.map_append]
  simp only [Option.toList_some, List.map_cons, List.map_nil]
  rw [List.getD_eq_getElem?_getD (l := fs), List.getElem?_eq_getElem h]; rfl
theorem id_wf {i f t c p d u x b y : Int} (h : failE i f t c p d u x b y = 0) : -9223372036854775808 ≤ i ∧ i ≤ 9223372036854775807 := by
  have := (fdue_t (fail_0 h).1).2.1; omega

set_option maxHeartbeats 4000000 in
theorem checks_run (v : Value) (fs : List (List Int)) (w : World) (hr : ReadsF w v fs) :
    Calls Try.prog 56 #[v] w fun e w' => e = .returned (.int .i64 (checksE fs)) ∧ Kpt w w' := by
  obtain ⟨a, cap, rfl, hm, -, hc⟩ := hr
  unfold maxLen at hm
  have HC := Lib.hid hc
  obtain ⟨n, hn⟩ : ∃ n, n = fs.length := ⟨_, rfl⟩
  by_cases h60 : 60 < fs.length
  · have HX : Hid (checksE fs = 2) := by unfold Hid checksE; rw [if_pos h60]
    rw [← hn] at h60 HC hm ⊢
    have y1 : decide ((60 : Int) < (n : Int)) = true := decide_eq_true (by omega)
    have y2 : (60 : Int) < (n : Int) := by omega
    clear hc hn
    go_enter Try.func56, Try.ntmps56
    go_wp2
    go_ret
    exact ⟨ret_int HX.out.symm, Kpt.refl _⟩
  · have HX : Hid (checksE fs = idsE (idsOf (fs.take 0)) (fs.drop 0)) := by unfold Hid checksE; rw [if_neg h60]; rfl
    have DR := Lib.hid (fun k (h : k < fs.length) => drop_at h)
    have IS := Lib.hid (fun k (h : k < fs.length) => idsOf_s h)
    have DA : Hid (fs.drop n = []) := by unfold Hid; rw [hn, List.drop_length]
    rw [← hn] at h60 HC hm DR IS ⊢
    have y1 : decide ((60 : Int) < (n : Int)) = false := decide_eq_false (by omega)
    have y2 : ¬ (60 : Int) < (n : Int) := by omega
    clear hc hn
    have hmm := @run_makeMap Try.prog
    have HO0 := Lib.hid (OwnsIds.nil w)
    have K0 : Hid (Kpt w (w.alloc (.map #[] 0))) := (Kpt.refl w).alloc _
    go_enter Try.func56, Try.ntmps56
    go_wp2
    clear hmm
    go_loopw [13] (fun ii wr => ∃ k : Nat, k ≤ n ∧ ii = .int .i64 (k : Int) ∧ Hid (checksE fs = idsE (idsOf (fs.take k)) (fs.drop k)) ∧ Hid (OwnsIds wr w.heap.size k (idsOf (fs.take k))) ∧ Hid (Kpt w wr)) (fun ii _ => n - (intOf ii).toNat)
    case atStart => exact ⟨0, Nat.zero_le _, rfl, HX.out, HO0.out, K0.out⟩
    case round =>
      obtain ⟨k, hk, rfl, HE, HO, HK⟩ := hrel
      by_cases hlt : k < n
      · obtain ⟨g, off, rfl, hfl⟩ := HC.out k hlt
        have hf := hfl.kpt HK.out
        have dr := DR.out k hlt
        have is' := IS.out k hlt
        have he := HE.out
        rw [dr] at he
        unfold idsE failEL at he
        have c0 : wr.cell? ⟨g, off + k * 10, none⟩ = _ := hf 0 (by omega)
        have c1 : wr.cell? ⟨g, off + k * 10 + 1, none⟩ = _ := hf 1 (by omega)
        have c2 : wr.cell? ⟨g, off + k * 10 + 2, none⟩ = _ := hf 2 (by omega)
        have c3 : wr.cell? ⟨g, off + k * 10 + 3, none⟩ = _ := hf 3 (by omega)
        have c4 : wr.cell? ⟨g, off + k * 10 + 4, none⟩ = _ := hf 4 (by omega)
        have c5 : wr.cell? ⟨g, off + k * 10 + 5, none⟩ = _ := hf 5 (by omega)
        have c6 : wr.cell? ⟨g, off + k * 10 + 6, none⟩ = _ := hf 6 (by omega)
        have c7 : wr.cell? ⟨g, off + k * 10 + 7, none⟩ = _ := hf 7 (by omega)
        have c8 : wr.cell? ⟨g, off + k * 10 + 8, none⟩ = _ := hf 8 (by omega)
        have c9 : wr.cell? ⟨g, off + k * 10 + 9, none⟩ = _ := hf 9 (by omega)
        generalize fs.getD k [] = l at *
        generalize l.getD 0 0 = i at *
        generalize l.getD 1 0 = f at *
        generalize l.getD 2 0 = t at *
        generalize l.getD 3 0 = c at *
        generalize l.getD 4 0 = p at *
        generalize l.getD 5 0 = d at *
        generalize l.getD 6 0 = u at *
        generalize l.getD 7 0 = x at *
        generalize l.getD 8 0 = b at *
        generalize l.getD 9 0 = y at *
        have hE0 : w.heap.size < wr.heap.size := HO.out.lt
        have CK := Lib.hid (fun w' => fcheck_run i f t c p d u x b y w')
        have ZB : Hid (Blk (wr.alloc (.cells #[.int .i64 0, .int .i64 0, .int .i64 0, .int .i64 0, .int .i64 0, .int .i64 0, .int .i64 0, .int .i64 0, .int .i64 0, .int .i64 0] 38)) wr.heap.size #[.int .i64 0, .int .i64 0, .int .i64 0, .int .i64 0, .int .i64 0, .int .i64 0, .int .i64 0, .int .i64 0, .int .i64 0, .int .i64 0] 38) := Blk.made _ _ _
        have KZ : Hid (Kpt w (wr.alloc (.cells #[.int .i64 0, .int .i64 0, .int .i64 0, .int .i64 0, .int .i64 0, .int .i64 0, .int .i64 0, .int .i64 0, .int .i64 0, .int .i64 0] 38))) := HK.out.alloc _
        have OZ : Hid (OwnsIds (wr.alloc (.cells #[.int .i64 0, .int .i64 0, .int .i64 0, .int .i64 0, .int .i64 0, .int .i64 0, .int .i64 0, .int .i64 0, .int .i64 0, .int .i64 0] 38)) w.heap.size k (idsOf (fs.take k))) := HO.out.kpt ((Kpt.refl _).alloc _)
        by_cases hE : failE i f t c p d u x b y = 0
        · rw [hE] at CK he
          rw [if_neg (by simp)] at he
          have hi := id_wf hE
          by_cases hin : i ∈ idsOf (fs.take k)
          · rw [if_pos hin] at he
            have HE2 := Lib.hid he
            have yb : decide (i ∈ idsOf (fs.take k)) = true := decide_eq_true hin
            clear he hE hin dr is' hf hfl HE
            go_wp2_with (first
              | (refine wp_storeF rfl (.tmp 5) (.tmp 16) rfl wr.heap.size _ _ rfl rfl ZB.out rfl rfl (by simp [Value.oneCell']) ?_; intro w9 r9 k9 o9; have R9 := Lib.hid r9; have K9 := Lib.hid (k9 _ _ KZ.out HK.out.size); have O9 := Lib.hid (OZ.out.block (o9 _ (by omega))); clear r9 k9 o9)
              | (refine wp_loadF rfl (.tmp 5) rfl wr.heap.size _ rfl R9.out rfl ?_)
              | (go_at_call 104; (with_reducible refine (CK.out _).mono ?_); rintro e w10 ⟨rfl, k10⟩; have K10 := Lib.hid (ktr K9.out k10); have O10 := Lib.hid (O9.out.kpt k10); have R10 : Hid (Blk w10 wr.heap.size #[.int .i64 i, .int .i64 f, .int .i64 t, .int .i64 c, .int .i64 p, .int .i64 d, .int .i64 u, .int .i64 x, .int .i64 b, .int .i64 y] 38) := R9.out.kpt k10; have ci : World.cell? w10 ⟨wr.heap.size, 0, none⟩ = some (.int .i64 i) := R10.out.cell 0; clear k10)
              | (at_lookup; refine wp_lookup_ids _ rfl _ _ rfl w.heap.size k _ rfl O10.out i hi rfl true yb ?_))
            go_ret
            exact ⟨ret_int HE2.out.symm, K10.out⟩
          · rw [if_neg hin] at he
            have yb : decide (i ∈ idsOf (fs.take k)) = false := decide_eq_false hin
            rw [← is'] at he
            have HE2 := Lib.hid he
            have IS2 := Lib.hid is'
            clear he hE hin dr is' hf hfl HE
            go_wp2_with (first
              | (refine wp_storeF rfl (.tmp 5) (.tmp 16) rfl wr.heap.size _ _ rfl rfl ZB.out rfl rfl (by simp [Value.oneCell']) ?_; intro w9 r9 k9 o9; have R9 := Lib.hid r9; have K9 := Lib.hid (k9 _ _ KZ.out HK.out.size); have O9 := Lib.hid (OZ.out.block (o9 _ (by omega))); clear r9 k9 o9)
              | (refine wp_loadF rfl (.tmp 5) rfl wr.heap.size _ rfl R9.out rfl ?_)
              | (go_at_call 104; (with_reducible refine (CK.out _).mono ?_); rintro e w10 ⟨rfl, k10⟩; have K10 := Lib.hid (ktr K9.out k10); have O10 := Lib.hid (O9.out.kpt k10); have R10 : Hid (Blk w10 wr.heap.size #[.int .i64 i, .int .i64 f, .int .i64 t, .int .i64 c, .int .i64 p, .int .i64 d, .int .i64 u, .int .i64 x, .int .i64 b, .int .i64 y] 38) := R9.out.kpt k10; have ci : World.cell? w10 ⟨wr.heap.size, 0, none⟩ = some (.int .i64 i) := R10.out.cell 0; clear k10)
              | (at_lookup; refine wp_lookup_ids _ rfl _ _ rfl w.heap.size k _ rfl O10.out i hi rfl false yb ?_)
              | (at_mapUpdate; refine wp_store_ids _ rfl _ _ _ rfl w.heap.size k _ rfl O10.out (by omega) i hi rfl rfl ?_; intro w11 h1 h2 _; rw [← IS2.out] at h1; have O11 := Lib.hid h1; have K11 : Hid (Kpt w w11) := Below.trans K10.out (h2 _ (Nat.le_refl _)); clear h1 h2))
            go_roundw
            case rel => exact ⟨k + 1, by omega, by go_num, HE2.out, O11.out, K11.out⟩
            case measure => simp [intOf]; omega
        · rw [if_pos hE] at he
          have z0 : (failE i f t c p d u x b y != 0) = true := bne_iff_ne.2 hE
          have HE2 := Lib.hid he
          clear he hE dr is' hf hfl HE
          generalize failE i f t c p d u x b y = E at *
          go_wp2_with (first
            | (refine wp_storeF rfl (.tmp 5) (.tmp 16) rfl wr.heap.size _ _ rfl rfl ZB.out rfl rfl (by simp [Value.oneCell']) ?_; intro w9 r9 k9 o9; have R9 := Lib.hid r9; have K9 := Lib.hid (k9 _ _ KZ.out HK.out.size); have O9 := Lib.hid (OZ.out.block (o9 _ (by omega))); clear r9 k9 o9)
            | (refine wp_loadF rfl (.tmp 5) rfl wr.heap.size _ rfl R9.out rfl ?_)
            | (go_at_call 104; (with_reducible refine (CK.out _).mono ?_); rintro e w10 ⟨rfl, k10⟩; have K10 := Lib.hid (ktr K9.out k10); have O10 := Lib.hid (O9.out.kpt k10); have R10 : Hid (Blk w10 wr.heap.size #[.int .i64 i, .int .i64 f, .int .i64 t, .int .i64 c, .int .i64 p, .int .i64 d, .int .i64 u, .int .i64 x, .int .i64 b, .int .i64 y] 38) := R9.out.kpt k10; have ci : World.cell? w10 ⟨wr.heap.size, 0, none⟩ = some (.int .i64 i) := R10.out.cell 0; clear k10))
          go_ret
          exact ⟨ret_int HE2.out.symm, K10.out⟩
      · obtain rfl : k = n := by omega
        rw [DA.out] at HE
        go_wp2
        go_ret
        exact ⟨ret_int HE.out.symm, HK.out⟩

end Go.Proofs.Ytgccipmeiceonaa

-- FailF
namespace Go.Proofs.Ytgccipmeiceonaa
open Go.RowKit Go.Maps
set_option linter.unusedVariables false

/-- the place of the first fail of this number, or -1 -/
def idxF (id : Int) : List (List Int) → Nat → Int
  | [], _ => -1
  | l :: fs, k => if l.getD 0 0 = id then (k : Int) else idxF id fs (k + 1)
theorem some_run (w : World) : Calls Try.prog 68 #[] w fun e w' => e = .returned (.agg #[.int .i64 7, .int .i64 1, .int .i64 2, .int .i64 0, .int .i64 3, .int .i64 739935, .int .i64 100, .int .i64 0, .int .i64 0, .int .i64 0]) ∧ Kpt w w' := by
  have R1 := Lib.hid (Blk.made w #[.int .i64 0, .int .i64 0, .int .i64 0, .int .i64 0, .int .i64 0, .int .i64 0, .int .i64 0, .int .i64 0, .int .i64 0, .int .i64 0] 38)
  have K1 : Hid (Kpt w (w.alloc (.cells #[.int .i64 0, .int .i64 0, .int .i64 0, .int .i64 0, .int .i64 0, .int .i64 0, .int .i64 0, .int .i64 0, .int .i64 0, .int .i64 0] 38))) := (Kpt.refl w).alloc _
  go_enter Try.func68, Try.ntmps68
  go_wp2_with (refine wp_storeF rfl (.tmp 0) (.tmp 1) rfl w.heap.size _ _ rfl rfl R1.out rfl rfl (by simp [Value.oneCell']) ?_; intro w9 r9 k9 _; have R9 := Lib.hid r9; have K9 := Lib.hid (k9 _ _ K1.out (Nat.le_refl _)); clear r9 k9)
  exact bodyPost_ret (v := .agg #[.int .i64 7, .int .i64 1, .int .i64 2, .int .i64 0, .int .i64 3, .int .i64 739935, .int .i64 100, .int .i64 0, .int .i64 0, .int .i64 0]) (results_cell_row Try.results68 _ _ w.heap.size _ _ _ _ rfl R9.out Try.underlying38 rfl Try.sizeFail) rfl ⟨rfl, K9.out⟩

end Go.Proofs.Ytgccipmeiceonaa
