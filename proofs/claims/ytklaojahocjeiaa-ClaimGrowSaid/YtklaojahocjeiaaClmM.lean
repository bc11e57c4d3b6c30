/-
  Claims and what grows: the mathematics.
-/
import Derived.Test.YtklaojahocjeiaaClmJ
import Derived.Test.YtklaojahocjeiaaIdsOk
namespace Go.Proofs.Ytklaojahocjeiaa
open Go.RowKit
set_option linter.unusedVariables false

theorem checks_all {fs : List (List Int)} (h : checksE fs = 0) : fs.length ≤ 60 ∧ ∀ l ∈ fs, failEL l = 0 := by
  unfold checksE at h
  split at h
  · cases h
  · exact ⟨by omega, (ids_ok.1 h).1⟩
theorem unit_bd {l : List Int} (h : failEL l = 0) : 1 ≤ l.getD 6 0 ∧ l.getD 6 0 ≤ 1073741824 := (fdue_t (fail_0 h).1).2.2.2.2.2
theorem dues_none (fs : List (List Int)) (xs : List (Fin fs.length)) : duesOf 0 fs xs = [] := by
  unfold duesOf
  refine List.flatMap_eq_nil_iff.2 fun x _ => ?_
  unfold dueL hoC
  rw [Int.mul_zero]; simp
theorem hoN_0 (O U : Int) : hoN 0 O U = 0 := by
  unfold hoN
  split
  · rfl
  · rw [Int.mul_zero, Int.zero_ediv]
theorem psts_none (P O : Int) (fs : List (List Int)) (xs : List (Fin fs.length)) : pstsOf P 0 O fs xs = [] := by
  unfold pstsOf
  refine List.flatMap_eq_nil_iff.2 fun x _ => ?_
  unfold pstL
  rw [hoN_0]; simp
theorem hit_none {P : Int} {fs : List (List Int)} (h : ∀ j, j < fs.length → (fs.getD j []).getD 4 0 ≠ P) : hit P fs fs.length = [] := by
  unfold hit
  refine List.filter_eq_nil_iff.2 fun x _ => ?_
  have := h x.1 x.2
  unfold hitB
  rw [decide_eq_false this]; simp
theorem set_getF (c : List (List Int)) (k j : Nat) (hk : k < c.length) (v : List Int) : (c.set k v).getD j [] = if j = k then v else c.getD j [] := by
  rw [List.getD_eq_getElem?_getD, List.getElem?_set, List.getD_eq_getElem?_getD]
  by_cases h : k = j
  · subst h; simp [hk]
  · rw [if_neg h, if_neg (Ne.symm h)]
theorem snoc_ind {α : Type} {p : List α → Prop} (h0 : p []) (hs : ∀ xs x, p xs → p (xs ++ [x])) (xs : List α) : p xs := by
  have : ∀ ys : List α, p ys.reverse := fun ys => by
    induction ys with
    | nil => exact h0
    | cons y ys ih => rw [List.reverse_cons]; exact hs _ _ ih
  have := this xs.reverse
  rwa [List.reverse_reverse] at this
/-- a cell that is no units stays -/
theorem gro_rest (G O : Int) (fs : List (List Int)) (xs : List (Fin fs.length)) (k j : Nat) (hj : j < 10) (h6 : j ≠ 6) : ((gro G O fs xs).getD k []).getD j 0 = (fs.getD k []).getD j 0 := by
  refine snoc_ind (p := fun xs => ∀ k, ((gro G O fs xs).getD k []).getD j 0 = (fs.getD k []).getD j 0) (fun k => rfl) (fun xs x ih k => ?_) xs k
  rw [gro_s]
  unfold gst
  rw [set_getF _ _ _ (by rw [gro_len]; exact x.2)]
  split
  · next e => subst e; rw [upd_at _ _ hj, if_neg h6]; exact ih x.1
  · exact ih k
theorem unL_set (c : List (List Int)) (k j : Nat) (hk : k < c.length) (v : List Int) : unL (c.set k v) j = if j = k then v.getD 6 0 else unL c j := by
  unfold unL
  rw [set_getF _ _ _ hk]
  split <;> rfl
/-- the units of a place: what was there, and what is new, once -/
theorem gro_unit (G O : Int) (fs : List (List Int)) (xs : List (Fin fs.length)) (hn : xs.Nodup) (k : Fin fs.length) : unL (gro G O fs xs) k.1 = if k ∈ xs then IntKind.i64.wrap (unL fs k.1 + hoN G O (openL (fs.getD k.1 []))) else unL fs k.1 := by
  refine snoc_ind (p := fun xs => xs.Nodup → ∀ k : Fin fs.length, unL (gro G O fs xs) k.1 = if k ∈ xs then IntKind.i64.wrap (unL fs k.1 + hoN G O (openL (fs.getD k.1 []))) else unL fs k.1) (fun _ k => by simp [gro]) (fun xs x ih hd k => ?_) xs hn k
  obtain ⟨h1, -, h3⟩ := List.nodup_append.1 hd
  have hx : x ∉ xs := fun h => h3 x h x (by simp) rfl
  rw [gro_s]
  unfold gst
  rw [unL_set _ _ _ (by rw [gro_len]; exact x.2), upd_at _ _ (by decide), if_pos rfl]
  by_cases hk : k = x
  · subst hk
    rw [if_pos rfl, if_pos (by simp), ih h1 k, if_neg hx]
  · rw [if_neg (fun e => hk (Fin.ext e)), ih h1 k]
    by_cases hm : k ∈ xs
    · rw [if_pos hm, if_pos (by simp [hm])]
    · rw [if_neg hm, if_neg (by simp [hm, hk])]
theorem hit_nodup (P : Int) (fs : List (List Int)) (k : Nat) : (hit P fs k).Nodup := by
  unfold hit
  exact List.Nodup.sublist (List.filter_sublist.trans (List.take_sublist _ _)) (List.nodup_finRange _)
theorem hit_mem {P : Int} {fs : List (List Int)} {x : Fin fs.length} : x ∈ hit P fs fs.length ↔ hitB P (fs.getD x.1 []) = true := by
  unfold hit
  rw [List.take_of_length_le (by simp), List.mem_filter]
  simp
/-- where no papers come nothing grows -/
theorem gro_still {G O : Int} (hG : G = 0) {fs : List (List Int)} (hb : ∀ l ∈ fs, failEL l = 0) (xs : List (Fin fs.length)) (hn : xs.Nodup) (k j : Nat) (hk : k < fs.length) (hj : j < 10) : ((gro G O fs xs).getD k []).getD j 0 = (fs.getD k []).getD j 0 := by
  by_cases h6 : j = 6
  · subst h6 hG
    have := gro_unit 0 O fs xs hn ⟨k, hk⟩
    unfold unL at this
    rw [this]
    split
    · rw [hoN_0, Int.add_zero]
      have := unit_bd (hb _ (getF_mem hk))
      show IntKind.i64.wrap ((fs.getD k []).getD 6 0) = (fs.getD k []).getD 6 0
      exact IntWalk.i64_in _ (by omega)
    · rfl
  · exact gro_rest G O fs xs k j hj h6
/-- a slice of the call's own that holds what another list holds reads as that one -/
theorem OwnsN.readsG {w : World} {B : Nat} {v : Value} {fs gs : List (List Int)} (h : OwnsN 10 49 w B v gs) (hl : gs.length = fs.length) (hb : ∀ l ∈ fs, FlB l) (he : ∀ k j, k < fs.length → j < 10 → (gs.getD k []).getD j 0 = (fs.getD k []).getD j 0) : ReadsF w v fs := by
  obtain ⟨a, cap, rfl, hm, hc⟩ := h.cells
  rw [hl] at hm
  refine ⟨a, cap, by rw [hl], hm, hb, fun k hk => ?_⟩
  obtain ⟨g, rfl, hc'⟩ := hc k (by omega)
  exact ⟨g, 0, rfl, fun j hj => by rw [Nat.zero_add, hc' j hj, he k j hk hj]⟩
theorem pre_nil {α : Type} {pre : List α} {x : α} (h : pre ++ [x] <+: []) : False := by
  have := h.length_le
  simp at this

end Go.Proofs.Ytklaojahocjeiaa
