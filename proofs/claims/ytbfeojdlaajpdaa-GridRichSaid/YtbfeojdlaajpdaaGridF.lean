/-
  What After of package grid does.
-/
import Derived.Test.YtbfeojdlaajpdaaGridE
namespace Go.Proofs.Ytbfeojdlaajpdaa
open Go.RowKit
set_option linter.unusedVariables false

/-- indices that stand right are rising ones -/
theorem idx_ds {n : Nat} {zs : List Int} {b : Int} (hb : -1 ≤ b) (h : idxE n b zs = 0) : ∃ ds : List Nat, zs = ints ds ∧ incN (b + 1).toNat ds ∧ ∀ i ∈ ds, i < n := by
  induction zs generalizing b with
  | nil => exact ⟨[], rfl, trivial, by simp⟩
  | cons z l ih =>
    unfold idxE at h
    split at h
    · next h1 =>
      split at h
      · omega
      · next h2 =>
        obtain ⟨ds, e, h3, h4⟩ := ih (b := z) (by omega) h
        refine ⟨z.toNat :: ds, ?_, ⟨by omega, ?_⟩, ?_⟩
        · unfold ints at *
          rw [List.map_cons, ← e, show ((z.toNat : Nat) : Int) = z by omega]
        · rw [show z.toNat + 1 = (z + 1).toNat by omega]; exact h3
        · intro i hi
          rcases List.mem_cons.1 hi with rfl | hi
          · omega
          · exact h4 i hi
    · omega
theorem ds_idx {n : Nat} {ds : List Nat} {b : Int} (hb : -1 ≤ b) (h : incN (b + 1).toNat ds) (hn : ∀ i ∈ ds, i < n) : idxE n b (ints ds) = 0 := by
  induction ds generalizing b with
  | nil => rfl
  | cons i ds ih =>
    have h1 := h.1
    have h2 := hn i (by simp)
    have e : ints (i :: ds) = (i : Int) :: ints ds := rfl
    rw [e, idxE, if_pos (by omega), if_neg (by omega)]
    refine ih (b := (i : Int)) (by omega) ?_ fun j hj => hn j (by simp [hj])
    rw [show ((i : Int) + 1).toNat = i + 1 by omega]; exact h.2
theorem incN_len {a n : Nat} {ds : List Nat} (h : incN a ds) (hn : ∀ i ∈ ds, i < n) (ha : a ≤ n) : ds.length ≤ n - a := by
  induction ds generalizing a with
  | nil => simp
  | cons i ds ih =>
    have h1 := h.1
    have h2 := hn i (by simp)
    have := ih h.2 (fun j hj => hn j (by simp [hj])) (by omega)
    rw [List.length_cons]; omega
theorem idxs_ds {n : Nat} {zs : List Int} (h : idxsE n zs = 0) : ∃ ds : List Nat, zs = ints ds ∧ incN 0 ds ∧ ∀ i ∈ ds, i < n := by
  unfold idxsE at h
  split at h
  · omega
  · exact idx_ds (b := -1) (by omega) h
theorem ds_idxs {n : Nat} {ds : List Nat} (h : incN 0 ds) (hn : ∀ i ∈ ds, i < n) : idxsE n (ints ds) = 0 := by
  have := incN_len h hn (Nat.zero_le _)
  unfold idxsE
  rw [if_neg (by rw [ints_len]; omega)]
  exact ds_idx (b := -1) (by omega) h hn
theorem negI_cases (zs : List Int) : (negI zs = -1 ∧ ∀ j, j < zs.length → ¬ zs.getD j 0 < 0) ∨ ∃ k : Nat, k < zs.length ∧ negI zs = (k : Int) ∧ zs.getD k 0 < 0 := by
  unfold negI
  by_cases h : zs.findIdx (fun z => decide (z < 0)) < zs.length
  · rw [if_pos h]
    have h2 := List.findIdx_getElem (w := h)
    refine .inr ⟨_, h, rfl, ?_⟩
    rw [List.getD_eq_getElem?_getD, List.getElem?_eq_getElem h]
    simpa using h2
  · rw [if_neg h]
    refine .inl ⟨rfl, fun j hj hz => h ?_⟩
    refine List.findIdx_lt_length_of_exists ⟨zs.getD j 0, getD_mem hj, by simpa using hz⟩

theorem after_bad (v vl vd : Value) (has : List Int) (ps : List (Int × Int × Int)) (w : World) (hr : Reads w v has) (hp : ReadsP w vl ps) (hg : gridE has ps ≠ 0) :
    Calls Try.prog 15 #[v, vl, vd] w fun e w' => e = .returned (.tuple #[.slice none 0 0, .int .i64 (gridE has ps)]) ∧ Kpt w w' := by
  have GC := Lib.hid (gridCheck_run v vl has ps w hr hp)
  clear hr hp
  generalize gridE has ps = E at *
  go_enter Try.func15, Try.ntmps15
  go_wp2_with (go_at_call 21; (with_reducible refine GC.out.mono ?_); rintro e w1 ⟨rfl, g1⟩)
  exact bodyPost_ret (v := .tuple #[.slice none 0 0, .int .i64 E]) (by simp [results, Try.results15, go_sem]) rfl ⟨rfl, g1.kpt⟩
set_option maxHeartbeats 1000000 in
theorem after_idx (v vl vd : Value) (has : List Int) (ps : List (Int × Int × Int)) (zs : List Int) (w : World) (hr : Reads w v has) (hp : ReadsP w vl ps) (hd : Reads w vd zs) (hg : gridE has ps = 0) (hi : idxsE ps.length zs ≠ 0) :
    Calls Try.prog 15 #[v, vl, vd] w fun e w' => e = .returned (.tuple #[.slice none 0 0, .int .i64 (idxsE ps.length zs)]) ∧ Kpt w w' := by
  have GC := Lib.hid (gridCheck_run v vl has ps w hr hp)
  rw [hg] at GC
  have IC := Lib.hid (fun w' (g : Kpt w w') => idxs_run vd zs ps.length w' (hd.kpt g) hp.len)
  obtain ⟨pa, pcap, rfl, -, -, -, -⟩ := hp
  clear hr hd hg
  generalize idxsE ps.length zs = E at *
  go_enter Try.func15, Try.ntmps15
  go_wp2_with (first
    | (go_at_call 21; (with_reducible refine GC.out.mono ?_); rintro e w1 ⟨rfl, g1⟩; have K1 := Lib.hid g1.kpt; clear g1)
    | (go_at_call 50; (with_reducible refine (IC.out _ K1.out).mono ?_); rintro e w2 ⟨rfl, k2⟩; have K2 := Lib.hid (ktr K1.out k2); clear k2))
  exact bodyPost_ret (v := .tuple #[.slice none 0 0, .int .i64 E]) (by simp [results, Try.results15, go_sem]) rfl ⟨rfl, K2.out⟩
set_option maxHeartbeats 2000000 in
/-- rising indices: an error where a party is short, or what all have -/
theorem after_ds (v vl vd : Value) (has : List Int) (ps : List (Int × Int × Int)) (ds : List Nat) (w : World) (hr : Reads w v has) (hp : ReadsP w vl ps) (hd : Reads w vd (ints ds)) (hg : gridE has ps = 0) (hi : incN 0 ds) (hl : ∀ i ∈ ds, i < ps.length) :
    Calls Try.prog 15 #[v, vl, vd] w fun e w' => ((0 ≤ negI (settleF ps has ds) ∧ e = .returned (.tuple #[.slice none 0 0, .int .i64 8])) ∨ (negI (settleF ps has ds) = -1 ∧ ∃ g cap, e = .returned (.tuple #[.slice (some ⟨g, 0, none⟩) 31 cap, .int .i64 0]) ∧ 31 ≤ cap ∧ w.heap.size ≤ g ∧ OwnI w' g (settleF ps has ds))) ∧ Kpt w w' := by
  have GC := Lib.hid (gridCheck_run v vl has ps w hr hp)
  rw [hg] at GC
  have IC := Lib.hid (fun w' (g : Kpt w w') => idxs_run vd (ints ds) ps.length w' (hd.kpt g) hp.len)
  rw [ds_idxs hi hl] at IC
  have SR := Lib.hid (fun w' (g : Kpt w w') => settle_run v vl vd has ps ds w' (hr.kpt g) (hp.kpt g) (hd.kpt g) hg hi hl)
  obtain ⟨h31, -⟩ := grid_0 hg
  have h31 := (settle_len ps ds has).trans h31
  have HNI := Lib.hid (negI_cases (settleF ps has ds))
  obtain ⟨pa, pcap, rfl, -, -, -, -⟩ := hp
  clear hr hd hg hi hl
  generalize settleF ps has ds = L at *
  have FS := Lib.hid (fun (w' : World) g cap (h : OwnI w' g L) => firstShort_run (.slice (some ⟨g, 0, none⟩) L.length cap) L w' (h.reads (by unfold maxLen; omega) cap))
  rw [h31] at FS
  have HNEG : Hid (negI L = negI L) := rfl
  go_enter Try.func15, Try.ntmps15
  rcases HNI.out with ⟨hn, -⟩ | ⟨q, -, hn, -⟩
  · rw [hn] at FS
    have HN := Lib.hid hn
    clear hn HNI
    go_wp2_with (first
      | (go_at_call 21; (with_reducible refine GC.out.mono ?_); rintro e w1 ⟨rfl, g1⟩; have K1 := Lib.hid g1.kpt; clear g1)
      | (go_at_call 50; (with_reducible refine (IC.out _ K1.out).mono ?_); rintro e w2 ⟨rfl, k2⟩; have K2 := Lib.hid (ktr K1.out k2); clear k2)
      | (go_at_call 47; (with_reducible refine (SR.out _ K2.out).mono ?_); rintro e w3 ⟨⟨g, cap, rfl, hcap, hgw, ho⟩, k3⟩; have K3 := Lib.hid (ktr K2.out k3); have HO := Lib.hid ho; have HGW : Hid (w.heap.size ≤ g) := Nat.le_trans K2.out.size hgw; clear k3 ho)
      | (go_at_call 46; (with_reducible refine (FS.out _ _ _ HO.out).mono ?_); rintro e w4 ⟨rfl, k4⟩; have K4 := Lib.hid (ktr K3.out k4); have HO4 := Lib.hid (HO.out.kpt k4); clear k4))
    exact bodyPost_ret (v := .tuple #[.slice (some ⟨g, 0, none⟩) 31 cap, .int .i64 0]) (by simp [results, Try.results15, go_sem]) rfl ⟨.inr ⟨HN.out, g, cap, rfl, hcap, HGW.out, HO4.out⟩, K4.out⟩
  · rw [hn] at FS
    have HN := Lib.hid hn
    clear hn HNI
    go_wp2_with (first
      | (go_at_call 21; (with_reducible refine GC.out.mono ?_); rintro e w1 ⟨rfl, g1⟩; have K1 := Lib.hid g1.kpt; clear g1)
      | (go_at_call 50; (with_reducible refine (IC.out _ K1.out).mono ?_); rintro e w2 ⟨rfl, k2⟩; have K2 := Lib.hid (ktr K1.out k2); clear k2)
      | (go_at_call 47; (with_reducible refine (SR.out _ K2.out).mono ?_); rintro e w3 ⟨⟨g, cap, rfl, hcap, hgw, ho⟩, k3⟩; have K3 := Lib.hid (ktr K2.out k3); have HO := Lib.hid ho; clear k3 ho)
      | (go_at_call 46; (with_reducible refine (FS.out _ _ _ HO.out).mono ?_); rintro e w4 ⟨rfl, k4⟩; have K4 := Lib.hid (ktr K3.out k4); clear k4))
    exact bodyPost_ret (v := .tuple #[.slice none 0 0, .int .i64 8]) (by simp [results, Try.results15, go_sem]) rfl ⟨.inl ⟨by rw [HN.out]; omega, rfl⟩, K4.out⟩

end Go.Proofs.Ytbfeojdlaajpdaa
