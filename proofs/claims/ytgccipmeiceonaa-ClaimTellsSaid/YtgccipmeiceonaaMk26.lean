/-
  Merged: ClmM, ClmO.
-/
import Derived.Test.YtgccipmeiceonaaMk25
import Derived.Test.YtgccipmeiceonaaMk23
-- ClmM
namespace Go.Proofs.Ytgccipmeiceonaa
open Go.RowKit
set_option linter.unusedVariables false

theorem checks_all {fs : List (List Int)} (h : checksE fs = 0) : fs.length ≤ 60 ∧ ∀ l ∈ fs, failEL l = 0 := by
  unfold checksE at h
  split at h
  · cases h
  · exact ⟨by omega, (ids_ok.1 h).1⟩
theorem unit_bd {l : List Int} (h : failEL l = 0) : 1 ≤ l.getD 6 0 ∧ l.getD 6 0 ≤ 1073741824 := (fdue_t (fail_0 h).1).2.2.2.2.2
theorem dues_none (fs : List (List Int)) (xs : List (Fin fs.length)) : duesOf 0 fs xs = [] := by
  unfold duesOf
  refine List.flatMap_eq_nil_iff.2 fun x _ => ?_
  unfold dueL hoC
  rw [Int.mul_zero]; simp
theorem hoN_0 (O U : Int) : hoN 0 O U = 0 := by
  unfold hoN
  split
  · rfl
  · rw [Int.mul_zero, Int.zero_ediv]
theorem psts_none (P O : Int) (fs : List (List Int)) (xs : List (Fin fs.length)) : pstsOf P 0 O fs xs = [] := by
  unfold pstsOf
  refine List.flatMap_eq_nil_iff.2 fun x _ => ?_
  unfold pstL
  rw [hoN_0]; simp
theorem hit_none {P : Int} {fs : List (List Int)} (h : ∀ j, j < fs.length → (fs.getD j []).getD 4 0 ≠ P) : hit P fs fs.length = [] := by
  unfold hit
  refine List.filter_eq_nil_iff.2 fun x _ => ?_
  have := h x.1 x.2
  unfold hitB
  rw [decide_eq_false this]; simp
theorem set_getF (c : List (List Int)) (k j : Nat) (hk : k < c.length) (v : List Int) : (c.set k v).getD j [] = if j = k then v else c.getD j [] := by
  rw [List.getD_eq_getElem?_getD, List.getElem?_set, List.getD_eq_getElem?_getD]
  by_cases h : k = j
  · subst h; simp [hk]
  · rw [if_neg h, if_neg (Ne.symm h)]
theorem snoc_ind {α : Type} {p : List α → Prop} (h0 : p []) (hs : ∀ xs x, p xs → p (xs ++ [x])) (xs : List α) : p xs := by
  have : ∀ ys : List α, p ys.reverse := fun ys => by
    induction ys with
    | nil => exact h0
    | cons y ys ih => rw [List.reverse_cons]; exact hs _ _ ih
  have := this xs.reverse
  rwa [List.reverse_reverse] at this
/-- a cell that is no units stays -/
theorem gro_rest (G O : Int) (fs : List (List Int)) (xs : List (Fin fs.length)) (k j : Nat) (hj : j < 10) (h6 : j ≠ 6) : ((gro G O fs xs).getD k []).getD j 0 = (fs.getD k []).getD j 0 := by
  refine snoc_ind (p := fun xs => ∀ k, ((gro G O fs xs).getD k []).getD j 0 = (fs.getD k []).getD j 0) (fun k => rfl) (fun xs x ih k => ?_) xs k
  rw [gro_s]
  unfold gst
  rw [set_getF _ _ _ (by rw [gro_len]; exact x.2)]
  split
  · next e => subst e; rw [upd_at _ _ hj, if_neg h6]; exact ih x.1
  · exact ih k
theorem unL_set (c : List (List Int)) (k j : Nat) (hk : k < c.length) (v : List Int) : unL (c.set k v) j = if j = k then v.getD 6 0 else unL c j := by
  unfold unL
  rw [set_getF _ _ _ hk]
  split <;> rfl
/-- the units of a place: what was there, and what is new, once -/
theorem gro_unit (G O : Int) (fs : List (List Int)) (xs : List (Fin fs.length)) (hn : xs.Nodup) (k : Fin fs.length) : unL (gro G O fs xs) k.1 = if k ∈ xs then IntKind.i64.wrap (unL fs k.1 + hoN G O (openL (fs.getD k.1 []))) else unL fs k.1 := by
  refine snoc_ind (p := fun xs => xs.Nodup → ∀ k : Fin fs.length, unL (gro G O fs xs) k.1 = if k ∈ xs then IntKind.i64.wrap (unL fs k.1 + hoN G O (openL (fs.getD k.1 []))) else unL fs k.1) (fun _ k => by simp [gro]) (fun xs x ih hd k => ?_) xs hn k
  obtain ⟨h1, -, h3⟩ := List.nodup_append.1 hd
  have hx : x ∉ xs := fun h => h3 x h x (by simp) rfl
  rw [gro_s]
  unfold gst
  rw [unL_set _ _ _ (by rw [gro_len]; exact x.2), upd_at _ _ (by decide), if_pos rfl]
  by_cases hk : k = x
  · subst hk
    rw [if_pos rfl, if_pos (by simp), ih h1 k, if_neg hx]
  · rw [if_neg (fun e => hk (Fin.ext e)), ih h1 k]
    by_cases hm : k ∈ xs
    · rw [if_pos hm, if_pos (by simp [hm])]
    · rw [if_neg hm, if_neg (by simp [hm, hk])]
theorem hit_nodup (P : Int) (fs : List (List Int)) (k : Nat) : (hit P fs k).Nodup := by
  unfold hit
  exact List.Nodup.sublist (List.filter_sublist.trans (List.take_sublist _ _)) (List.nodup_finRange _)
theorem hit_mem {P : Int} {fs : List (List Int)} {x : Fin fs.length} : x ∈ hit P fs fs.length ↔ hitB P (fs.getD x.1 []) = true := by
  unfold hit
  rw [List.take_of_length_le (by simp), List.mem_filter]
  simp
/-- where no papers come nothing grows -/
theorem gro_still {G O : Int} (hG : G = 0) {fs : List (List Int)} (hb : ∀ l ∈ fs, failEL l = 0) (xs : List (Fin fs.length)) (hn : xs.Nodup) (k j : Nat) (hk : k < fs.length) (hj : j < 10) : ((gro G O fs xs).getD k []).getD j 0 = (fs.getD k []).getD j 0 := by
  by_cases h6 : j = 6
  · subst h6 hG
    have := gro_unit 0 O fs xs hn ⟨k, hk⟩
    unfold unL at this
    rw [this]
    split
    · rw [hoN_0, Int.add_zero]
      have := unit_bd (hb _ (getF_mem hk))
      show IntKind.i64.wrap ((fs.getD k []).getD 6 0) = (fs.getD k []).getD 6 0
      exact IntWalk.i64_in _ (by omega)
    · rfl
  · exact gro_rest G O fs xs k j hj h6
/-- a slice of the call's own that holds what another list holds reads as that one -/
theorem OwnsN.readsG {w : World} {B : Nat} {v : Value} {fs gs : List (List Int)} (h : OwnsN 10 38 w B v gs) (hl : gs.length = fs.length) (hb : ∀ l ∈ fs, FlB l) (he : ∀ k j, k < fs.length → j < 10 → (gs.getD k []).getD j 0 = (fs.getD k []).getD j 0) : ReadsF w v fs := by
  obtain ⟨a, cap, rfl, hm, hc⟩ := h.cells
  rw [hl] at hm
  refine ⟨a, cap, by rw [hl], hm, hb, fun k hk => ?_⟩
  obtain ⟨g, rfl, hc'⟩ := hc k (by omega)
  exact ⟨g, 0, rfl, fun j hj => by rw [Nat.zero_add, hc' j hj, he k j hk hj]⟩
theorem pre_nil {α : Type} {pre : List α} {x : α} (h : pre ++ [x] <+: []) : False := by
  have := h.length_le
  simp at this

end Go.Proofs.Ytgccipmeiceonaa

-- ClmO
namespace Go.Proofs.Ytgccipmeiceonaa
open Go.RowKit
set_option linter.unusedVariables false

theorem mem_pre {α : Type} {x : α} {xs : List α} (h : x ∈ xs) : ∃ pre, pre ++ [x] <+: xs := by
  obtain ⟨s, t, rfl⟩ := List.append_of_mem h
  exact ⟨s, t, by simp⟩
theorem openL_bd (l : List Int) : 0 ≤ openL l ∧ openL l ≤ 1073741824 := openV_bd _ _ _ _ _ _ _ _ _ _
/-- what a place holds behind it: no more is said than that it grows where the event reaches it -/
theorem gro_u {P C G O : Int} {fs : List (List Int)} (h : cwE P C G O fs = 0) (hg : GOk G O fs (hit P fs fs.length)) (k : Nat) (hk : k < fs.length) :
    unL (gro G O fs (hit P fs fs.length)) k = unL fs k + (if hitB P (fs.getD k []) = true then hoN G O (openL (fs.getD k [])) else 0) ∧ unL (gro G O fs (hit P fs fs.length)) k ≤ 1073741824 := by
  obtain ⟨h1, h2⟩ := cwE_0 h
  obtain ⟨-, -, hG, hO, -⟩ := evE_0 h1
  obtain ⟨-, hb⟩ := checks_all h2
  have hu := unit_bd (hb _ (getF_mem hk))
  have hn := hoN_bd (openL_bd (fs.getD k [])) hG hO.1
  have e := gro_unit G O fs _ (hit_nodup P fs fs.length) ⟨k, hk⟩
  have hw : IntKind.i64.wrap (unL fs k + hoN G O (openL (fs.getD k []))) = unL fs k + hoN G O (openL (fs.getD k [])) := IntWalk.i64_in _ (by unfold unL; omega)
  simp only at e
  by_cases hh : hitB P (fs.getD k []) = true
  · have hm : (⟨k, hk⟩ : Fin fs.length) ∈ hit P fs fs.length := hit_mem.2 hh
    rw [if_pos hm] at e
    rw [if_pos hh]
    refine ⟨e.trans hw, ?_⟩
    obtain ⟨pre, hp⟩ := mem_pre hm
    have := hg pre _ hp
    have hd : (pre ++ [(⟨k, hk⟩ : Fin fs.length)]).Nodup := List.Nodup.sublist hp.sublist (hit_nodup P fs fs.length)
    rw [gro_unit G O fs _ hd ⟨k, hk⟩, if_pos (by simp)] at this
    rw [e]; exact this
  · have hm : (⟨k, hk⟩ : Fin fs.length) ∉ hit P fs fs.length := fun q => hh (hit_mem.1 q)
    rw [if_neg hm] at e
    rw [if_neg hh, Int.add_zero]
    exact ⟨e, by rw [e]; exact hu.2⟩
theorem fail_more {i f t c p d u x b y u' : Int} (h : failE i f t c p d u x b y = 0) (h1 : u ≤ u') (h2 : u' ≤ 1073741824) : failE i f t c p d u' x b y = 0 := by
  obtain ⟨a1, a2, a3, a4⟩ := fail_0 h
  obtain ⟨b1, b2, b3, b4, b5, b6⟩ := fdue_t a1
  have c1 := ftk_t a3
  exact fail_mk (fdue_mk ⟨b1, b2, b3, b4, b5, by omega⟩) a2 (ftk_mk (by omega)) (by omega)
theorem open_is {i f t c p d u x b y : Int} (h : failE i f t c p d u x b y = 0) : openV i f t c p d u x b y = u - x - b - y := by
  unfold openV
  rw [if_pos h]
theorem gro_fail {P C G O : Int} {fs : List (List Int)} (h : cwE P C G O fs = 0) (hg : GOk G O fs (hit P fs fs.length)) (k : Nat) (hk : k < fs.length) : failEL ((gro G O fs (hit P fs fs.length)).getD k []) = 0 := by
  obtain ⟨e, hu⟩ := gro_u h hg k hk
  obtain ⟨h1, h2⟩ := cwE_0 h
  obtain ⟨-, -, hG, hO, -⟩ := evE_0 h1
  have hn := hoN_bd (openL_bd (fs.getD k [])) hG hO.1
  have hb := (checks_all h2).2 _ (getF_mem hk)
  have r := fun j hj h6 => gro_rest G O fs (hit P fs fs.length) k j hj h6
  unfold failEL at hb ⊢
  rw [r 0 (by decide) (by decide), r 1 (by decide) (by decide), r 2 (by decide) (by decide), r 3 (by decide) (by decide), r 4 (by decide) (by decide), r 5 (by decide) (by decide), r 7 (by decide) (by decide), r 8 (by decide) (by decide), r 9 (by decide) (by decide)]
  refine fail_more hb ?_ hu
  show unL fs k ≤ unL (gro G O fs (hit P fs fs.length)) k
  rw [e]
  split <;> omega
theorem getF_el {fs : List (List Int)} {k : Nat} (h : k < fs.length) : fs.getD k [] = fs[k] := by
  rw [List.getD_eq_getElem?_getD, List.getElem?_eq_getElem h]; rfl
theorem gro_checks {P C G O : Int} {fs : List (List Int)} (h : cwE P C G O fs = 0) (hg : GOk G O fs (hit P fs fs.length)) : checksE (gro G O fs (hit P fs fs.length)) = 0 := by
  obtain ⟨h1, h2⟩ := cwE_0 h
  have h60 := (checks_all h2).1
  have hl := gro_len G O fs (hit P fs fs.length)
  have hd : (idsOf fs).Nodup := by
    unfold checksE at h2
    rw [if_neg (by omega)] at h2
    exact (ids_ok.1 h2).2.1
  have he : idsOf (gro G O fs (hit P fs fs.length)) = idsOf fs := by
    unfold idsOf
    refine List.ext_getElem (by simp [hl]) fun k a1 a2 => ?_
    simp only [List.length_map] at a1 a2
    have := gro_rest G O fs (hit P fs fs.length) k 0 (by decide) (by decide)
    rw [getF_el a1, getF_el a2] at this
    rw [List.getElem_map, List.getElem_map]
    exact this
  unfold checksE
  rw [if_neg (by omega)]
  refine ids_ok.2 ⟨fun l hl' => ?_, by rw [he]; exact hd, fun _ _ q => by cases q⟩
  obtain ⟨k, a1, rfl⟩ := List.mem_iff_getElem.1 hl'
  have := gro_fail h hg k (by omega)
  rw [getF_el a1] at this
  exact this
theorem flB_of {l : List Int} (h : failEL l = 0) : FlB l := by
  obtain ⟨a1, a2, a3, a4⟩ := fail_0 h
  obtain ⟨b1, b2, b3, b4, b5, b6⟩ := fdue_t a1
  have c1 := ftk_t a3
  intro j hj
  rcases (show j = 0 ∨ j = 1 ∨ j = 2 ∨ j = 3 ∨ j = 4 ∨ j = 5 ∨ j = 6 ∨ j = 7 ∨ j = 8 ∨ j = 9 by omega) with rfl | rfl | rfl | rfl | rfl | rfl | rfl | rfl | rfl | rfl <;> omega
theorem flAt_lit {w : World} {g o : Nat} {l : List Int} (h : FlAt w g o l) : FlAt w g o [l.getD 0 0, l.getD 1 0, l.getD 2 0, l.getD 3 0, l.getD 4 0, l.getD 5 0, l.getD 6 0, l.getD 7 0, l.getD 8 0, l.getD 9 0] := by
  intro j hj
  rw [h j hj]
  rcases (show j = 0 ∨ j = 1 ∨ j = 2 ∨ j = 3 ∨ j = 4 ∨ j = 5 ∨ j = 6 ∨ j = 7 ∨ j = 8 ∨ j = 9 by omega) with rfl | rfl | rfl | rfl | rfl | rfl | rfl | rfl | rfl | rfl <;> rfl
/-- what the law asks of one place -/
theorem gro_place {P C G O : Int} {fs : List (List Int)} (h : cwE P C G O fs = 0) (hg : GOk G O fs (hit P fs fs.length)) (k : Nat) (hk : k < fs.length) :
    ∃ i f t c p d u x b y u', fs.getD k [] = fs.getD k [] ∧ (∀ w g o, FlAt w g o (fs.getD k []) → FlAt w g o [i, f, t, c, p, d, u, x, b, y]) ∧ (∀ w g o, FlAt w g o ((gro G O fs (hit P fs fs.length)).getD k []) → FlAt w g o [i, f, t, c, p, d, u', x, b, y]) ∧
      failE i f t c p d u x b y = 0 ∧ failE i f t c p d u' x b y = 0 ∧ openV i f t c p d u x b y ≤ openV i f t c p d u' x b y ∧ (openV i f t c p d u x b y < openV i f t c p d u' x b y → p = P ∧ openV i f t c p d u x b y ≠ 0) := by
  obtain ⟨e, hu⟩ := gro_u h hg k hk
  obtain ⟨h1, h2⟩ := cwE_0 h
  obtain ⟨-, -, hG, hO, -⟩ := evE_0 h1
  have hn := hoN_bd (openL_bd (fs.getD k [])) hG hO.1
  have hb := (checks_all h2).2 _ (getF_mem hk)
  have hf := gro_fail h hg k hk
  have r := fun j hj h6 => gro_rest G O fs (hit P fs fs.length) k j hj h6
  have hK : ∀ w g o, FlAt w g o ((gro G O fs (hit P fs fs.length)).getD k []) → FlAt w g o [(fs.getD k []).getD 0 0, (fs.getD k []).getD 1 0, (fs.getD k []).getD 2 0, (fs.getD k []).getD 3 0, (fs.getD k []).getD 4 0, (fs.getD k []).getD 5 0, unL (gro G O fs (hit P fs fs.length)) k, (fs.getD k []).getD 7 0, (fs.getD k []).getD 8 0, (fs.getD k []).getD 9 0] := fun w g o q => by
    have := flAt_lit q
    rwa [r 0 (by decide) (by decide), r 1 (by decide) (by decide), r 2 (by decide) (by decide), r 3 (by decide) (by decide), r 4 (by decide) (by decide), r 5 (by decide) (by decide), r 7 (by decide) (by decide), r 8 (by decide) (by decide), r 9 (by decide) (by decide)] at this
  unfold failEL at hf hb
  rw [r 0 (by decide) (by decide), r 1 (by decide) (by decide), r 2 (by decide) (by decide), r 3 (by decide) (by decide), r 4 (by decide) (by decide), r 5 (by decide) (by decide), r 7 (by decide) (by decide), r 8 (by decide) (by decide), r 9 (by decide) (by decide)] at hf
  replace hf : failE ((fs.getD k []).getD 0 0) ((fs.getD k []).getD 1 0) ((fs.getD k []).getD 2 0) ((fs.getD k []).getD 3 0) ((fs.getD k []).getD 4 0) ((fs.getD k []).getD 5 0) (unL (gro G O fs (hit P fs fs.length)) k) ((fs.getD k []).getD 7 0) ((fs.getD k []).getD 8 0) ((fs.getD k []).getD 9 0) = 0 := hf
  refine ⟨_, _, _, _, _, _, _, _, _, _, _, rfl, fun w g o q => flAt_lit q, hK, hb, hf, ?_, ?_⟩
  · rw [open_is hb, open_is hf]
    show unL fs k - _ - _ - _ ≤ unL (gro G O fs (hit P fs fs.length)) k - _ - _ - _
    rw [e]; split <;> omega
  · intro hlt
    rw [open_is hb, open_is hf] at hlt
    have hlt : unL fs k - (fs.getD k []).getD 7 0 - (fs.getD k []).getD 8 0 - (fs.getD k []).getD 9 0 < unL (gro G O fs (hit P fs fs.length)) k - (fs.getD k []).getD 7 0 - (fs.getD k []).getD 8 0 - (fs.getD k []).getD 9 0 := hlt
    rw [e] at hlt
    by_cases hh : hitB P (fs.getD k []) = true
    · unfold hitB at hh
      rw [Bool.and_eq_true] at hh
      refine ⟨of_decide_eq_true hh.1, ?_⟩
      have : 0 < openL (fs.getD k []) := of_decide_eq_true hh.2
      unfold openL at this
      omega
    · rw [if_neg hh] at hlt; omega

end Go.Proofs.Ytgccipmeiceonaa
