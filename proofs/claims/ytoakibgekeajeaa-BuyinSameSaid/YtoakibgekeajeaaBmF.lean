/-
  Merged: BuyF.
-/
import Derived.Test.YtoakibgekeajeaaBmc
import Derived.Test.YtoakibgekeajeaaBmb
import Derived.Test.YtoakibgekeajeaaTogether
-- BuyF
namespace Go.Proofs.Ytoakibgekeajeaa
open Go.RowKit Go.Lib
set_option linter.unusedVariables false

/-- taken of these places, in this order, while they are not too dear -/
def takG (U p : Int → Int) (lim : Int) : List Int → Int → List Int → List Int × Int
  | [], u, tk => (tk, u)
  | o :: os, u, tk => if lim < p o then (tk, u) else takG U p lim os (u - min u (U o)) (tk.set o.toNat (min u (U o)))
theorem takG_len (U p : Int → Int) (lim : Int) : ∀ (os : List Int) (u : Int) (tk : List Int), (takG U p lim os u tk).1.length = tk.length
  | [], _, _ => rfl
  | o :: os, u, tk => by
    unfold takG
    split
    · rfl
    · rw [takG_len]; simp
theorem takG_out (U p : Int → Int) (lim : Int) : ∀ (os : List Int) (u : Int) (tk : List Int) (q : Int), (∀ o ∈ os, 0 ≤ o) → 0 ≤ q → q ∉ os → (takG U p lim os u tk).1.getD q.toNat 0 = tk.getD q.toNat 0
  | [], _, _, _, _, _, _ => rfl
  | o :: os, u, tk, q, h0, hq, hn => by
    unfold takG
    split
    · rfl
    · have ho := h0 o (by simp)
      rw [takG_out U p lim os _ _ q (fun x hx => h0 x (by simp [hx])) hq (fun h => hn (by simp [h]))]
      have : q ≠ o := fun e => hn (by simp [e])
      simp only [List.getD_eq_getElem?_getD]
      rw [List.getElem?_set_ne (by omega)]
/-- what is true of what is taken -/
structure TakIs (U p : Int → Int) (lim u : Int) (os : List Int) (R : List Int × Int) (tk : List Int) : Prop where
  left : 0 ≤ R.2 ∧ R.2 ≤ u
  bd : ∀ o ∈ os, 0 ≤ R.1.getD o.toNat 0 ∧ R.1.getD o.toNat 0 ≤ U o
  dear : ∀ o ∈ os, lim < p o → R.1.getD o.toNat 0 = 0
  full : 0 < R.2 → ∀ o ∈ os, p o ≤ lim → R.1.getD o.toNat 0 = U o
  sum : (os.map fun o => R.1.getD o.toNat 0).sum + R.2 = u
theorem takG_is (U p : Int → Int) (lim : Int) : ∀ (os : List Int) (u : Int) (tk : List Int), os.Nodup → (∀ o ∈ os, 0 ≤ o ∧ o < tk.length ∧ 0 ≤ U o ∧ tk.getD o.toNat 0 = 0) → os.Pairwise (fun a b => p a ≤ p b) → 0 ≤ u → TakIs U p lim u os (takG U p lim os u tk) tk
  | [], u, tk, _, _, _, hu => ⟨⟨hu, Int.le_refl _⟩, by simp, by simp, by simp, by simp [takG]⟩
  | o :: os, u, tk, hd, h0, hp, hu => by
    have ho := h0 o (by simp)
    have hd' := List.nodup_cons.1 hd
    have hp' := List.pairwise_cons.1 hp
    unfold takG
    split
    · rename_i hl
      have hz : ∀ x ∈ o :: os, tk.getD x.toNat 0 = 0 := fun x hx => (h0 x hx).2.2.2
      have hdr : ∀ x ∈ o :: os, lim < p x := fun x hx => by
        rcases List.mem_cons.1 hx with rfl | hx
        · exact hl
        · have := hp'.1 x hx; omega
      refine ⟨⟨hu, Int.le_refl _⟩, fun x hx => ?_, fun x hx _ => hz x hx, fun _ x hx h => ?_, ?_⟩
      · show 0 ≤ tk.getD x.toNat 0 ∧ tk.getD x.toNat 0 ≤ U x
        rw [hz x hx]; have := (h0 x hx).2.2.1; omega
      · have := hdr x hx; omega
      · show ((o :: os).map fun o => tk.getD o.toNat 0).sum + u = u
        rw [List.map_congr_left (g := fun _ => (0 : Int)) (fun x hx => hz x hx)]
        have e : ∀ l : List Int, (l.map fun _ => (0 : Int)).sum = 0 := fun l => by
          induction l with
          | nil => rfl
          | cons a l ih => simp only [List.map_cons, List.sum_cons, ih]; rfl
        rw [e]; omega
    · rename_i hl
      have ih := takG_is U p lim os (u - min u (U o)) (tk.set o.toNat (min u (U o))) hd'.2 (fun x hx => by
        have h1 := h0 x (by simp [hx])
        have hne : x ≠ o := fun e => hd'.1 (by rw [← e]; exact hx)
        refine ⟨h1.1, by rw [List.length_set]; exact h1.2.1, h1.2.2.1, ?_⟩
        rw [List.getD_eq_getElem?_getD, List.getElem?_set_ne (by omega), ← List.getD_eq_getElem?_getD]
        exact h1.2.2.2) hp'.2 (by omega)
      have hself : (takG U p lim os (u - min u (U o)) (tk.set o.toNat (min u (U o)))).1.getD o.toNat 0 = min u (U o) := by
        rw [takG_out U p lim os _ _ o (fun x hx => (h0 x (by simp [hx])).1) ho.1 hd'.1]
        rw [List.getD_eq_getElem?_getD, List.getElem?_set_self (by omega)]; rfl
      refine ⟨⟨ih.left.1, by have := ih.left.2; omega⟩, fun x hx => ?_, fun x hx h => ?_, fun hpos x hx h => ?_, ?_⟩
      · rcases List.mem_cons.1 hx with rfl | hx
        · rw [hself]; omega
        · exact ih.bd x hx
      · rcases List.mem_cons.1 hx with rfl | hx
        · omega
        · exact ih.dear x hx h
      · rcases List.mem_cons.1 hx with rfl | hx
        · rw [hself]; have := ih.left.2; omega
        · exact ih.full hpos x hx h
      · have := ih.sum
        simp only [List.map_cons, List.sum_cons, hself]
        omega
theorem takG_more (U p : Int → Int) (lim more : Int) (hm : lim ≤ more) : ∀ (os : List Int) (u : Int) (tk : List Int), 0 ≤ u → (∀ o ∈ os, 0 ≤ U o) → (takG U p more os u tk).2 ≤ (takG U p lim os u tk).2
  | [], u, tk, _, _ => Int.le_refl _
  | o :: os, u, tk, hu, hU => by
    have h0 := hU o (by simp)
    have ih := takG_more U p lim more hm os (u - min u (U o)) (tk.set o.toNat (min u (U o))) (by omega) (fun x hx => hU x (by simp [hx]))
    have le : ∀ (l : Int) (os : List Int) (u : Int) (tk : List Int), 0 ≤ u → (∀ o ∈ os, 0 ≤ U o) → (takG U p l os u tk).2 ≤ u := by
      intro l os
      induction os with
      | nil => intro u tk _ _; exact Int.le_refl _
      | cons a os ih =>
        intro u tk hu hU
        have h0 := hU a (by simp)
        unfold takG
        split
        · exact Int.le_refl _
        · have := ih (u - min u (U a)) (tk.set a.toNat (min u (U a))) (by omega) (fun x hx => hU x (by simp [hx]))
          omega
    by_cases h1 : lim < p o
    · have e : (takG U p lim (o :: os) u tk).2 = u := by unfold takG; rw [if_pos h1]
      rw [e]
      exact le more (o :: os) u tk hu hU
    · have e1 : takG U p lim (o :: os) u tk = takG U p lim os (u - min u (U o)) (tk.set o.toNat (min u (U o))) := by
        rw [takG, if_neg h1]
      have e2 : takG U p more (o :: os) u tk = takG U p more os (u - min u (U o)) (tk.set o.toNat (min u (U o))) := by
        rw [takG, if_neg (by omega)]
      rw [e1, e2]; exact ih

theorem takF_eq (ps : List (Int × Int × Int)) (lim : Int) : ∀ (os : List Int) (u : Int) (tk : List Int), takF ps lim os u tk = takG (uO ps) (pO ps) lim os u tk
  | [], _, _ => rfl
  | o :: os, u, tk => by
    unfold takF takG
    rw [takF_eq ps lim os]
theorem ordB_prices {ps : List (Int × Int × Int)} (hall : ∀ p ∈ ps, offB p = true) : (ordB ps).Pairwise (fun a b => pO ps a ≤ pO ps b) := by
  have od := ordB_is ps
  have hm : ∀ o ∈ ordB ps, 1 ≤ uO ps o ∧ uO ps o ≤ 1073741824 := fun o ho => by have := uO_bd hall (od.mem.1 ho); omega
  rw [List.pairwise_iff_getElem]
  intro i j hi hj hij
  have h := List.pairwise_iff_getElem.1 od.sorted i j hi hj hij
  have h1 := hm _ (List.getElem_mem hi)
  have h2 := hm _ (List.getElem_mem hj)
  unfold lxK keyB at h
  omega
structure TakOK (ps : List (Int × Int × Int)) (u lim : Int) (R : List Int × Int) : Prop where
  len : R.1.length = ps.length
  left : 0 ≤ R.2 ∧ R.2 ≤ u
  bd : ∀ j : Nat, j < ps.length → 0 ≤ R.1.getD j 0 ∧ R.1.getD j 0 ≤ (ps.getD j default).2.1
  dear : ∀ j : Nat, j < ps.length → lim < (ps.getD j default).2.2 → R.1.getD j 0 = 0
  full : 0 < R.2 → ∀ j : Nat, j < ps.length → (ps.getD j default).2.2 ≤ lim → R.1.getD j 0 = (ps.getD j default).2.1
  sum : R.1.sum + R.2 = u
theorem take_is_ok {ps : List (Int × Int × Int)} {u lim : Int} (h0 : loanE ps = 0) (hu : 0 ≤ u) : TakOK ps u lim (takR ps u lim) := by
  obtain ⟨h40, hall⟩ := loan_0 h0
  have od := ordB_is ps
  have hl : (takR ps u lim).1.length = ps.length := by unfold takR; rw [takF_eq, takG_len, List.length_replicate]
  have h := takG_is (uO ps) (pO ps) lim (ordB ps) u (List.replicate ps.length 0) od.nodup (fun o ho => by
    have hm := od.mem.1 ho
    have hb := uO_bd hall hm
    refine ⟨hm.1, by rw [List.length_replicate]; exact hm.2, by omega, ?_⟩
    rw [List.getD_eq_getElem?_getD, List.getElem?_replicate]
    split <;> rfl) (ordB_prices hall) hu
  rw [← takF_eq] at h
  change TakIs (uO ps) (pO ps) lim u (ordB ps) (takR ps u lim) _ at h
  have hm : ∀ j : Nat, j < ps.length → (j : Int) ∈ ordB ps := fun j hj => od.mem.2 (by omega)
  refine ⟨hl, h.left, fun j hj => by simpa [uO] using h.bd _ (hm j hj), fun j hj hd => by simpa using h.dear _ (hm j hj) (by simpa [pO] using hd), fun hp j hj hd => by simpa [uO] using h.full hp _ (hm j hj) (by simpa [pO] using hd), ?_⟩
  have := h.sum
  rw [iota_sum ps.length _ _ od.perm] at this
  have e := rsum_at hl
  rw [e] at this
  exact this
theorem take_more {ps : List (Int × Int × Int)} {u lim more : Int} (h0 : loanE ps = 0) (hu : 0 ≤ u) (hm : lim ≤ more) : (takR ps u more).2 ≤ (takR ps u lim).2 := by
  obtain ⟨h40, hall⟩ := loan_0 h0
  unfold takR
  rw [takF_eq, takF_eq]
  exact takG_more _ _ _ _ hm _ _ _ hu fun o ho => by have := uO_bd hall ((ordB_is ps).mem.1 ho); omega

def TkE (w0 : World) (v : Value) (u lim E : Int) : Prop := ∀ w', Kpt w0 w' → Calls Try.prog 16 #[v, .int .i64 u, .int .i64 lim] w' fun e w'' => e = .returned (.tuple #[.slice none 0 0, .int .i64 0, .int .i64 E]) ∧ Kpt w' w''
def TkR (w0 : World) (v : Value) (n : Nat) (u lim : Int) (T : List Int) (M : Int) : Prop := ∀ w', Kpt w0 w' → Calls Try.prog 16 #[v, .int .i64 u, .int .i64 lim] w' fun e w'' => ∃ g, e = .returned (.tuple #[.slice (some ⟨g, 0, none⟩) n n, .int .i64 M, .int .i64 0]) ∧ w'.heap.size ≤ g ∧ Row w'' g T ∧ Kpt w' w''
theorem TkE.run {w0 : World} {v : Value} {u lim E : Int} (h : TkE w0 v u lim E) (w' : World) (k : Kpt w0 w') : Calls Try.prog 16 #[v, .int .i64 u, .int .i64 lim] w' fun e w'' => e = .returned (.tuple #[.slice none 0 0, .int .i64 0, .int .i64 E]) ∧ Kpt w' w'' := h w' k
theorem TkR.run {w0 : World} {v : Value} {n : Nat} {u lim : Int} {T : List Int} {M : Int} (h : TkR w0 v n u lim T M) (w' : World) (k : Kpt w0 w') : Calls Try.prog 16 #[v, .int .i64 u, .int .i64 lim] w' fun e w'' => ∃ g, e = .returned (.tuple #[.slice (some ⟨g, 0, none⟩) n n, .int .i64 M, .int .i64 0]) ∧ w'.heap.size ≤ g ∧ Row w'' g T ∧ Kpt w' w'' := h w' k
theorem take_way (a : Option Addr) (cap : Nat) (ps : List (Int × Int × Int)) (u lim : Int) (w : World) (hr : ReadsP w (.slice a ps.length cap) ps) :
    (∃ E, E ≠ 0 ∧ takE ps u lim = E ∧ TkE w (.slice a ps.length cap) u lim E) ∨ (takE ps u lim = 0 ∧ TkR w (.slice a ps.length cap) ps.length u lim (takR ps u lim).1 (takR ps u lim).2) := by
  by_cases h : takE ps u lim = 0
  · exact .inr ⟨h, fun w' k => take_ok a cap ps u lim w' (hr.kpt k) h⟩
  · exact .inl ⟨_, h, rfl, fun w' k => take_bad _ ps u lim w' (hr.kpt k) h⟩
theorem takE_0 {ps : List (Int × Int × Int)} {u lim : Int} (h : takE ps u lim = 0) : forE ps u = 0 ∧ prcB lim = true := by
  unfold takE at h
  split at h
  · rename_i h1
    split at h
    · rename_i h2; exact ⟨h1, h2⟩
    · cases h
  · rename_i h1; exact absurd h h1

theorem tog_nil (a : Option Addr) (cap : Nat) (w : World) : Calls Try.prog 28 #[.slice a 0 cap] w fun e w' => e = .returned (.int .i64 0) ∧ Kpt w w' := by
  go_enter Try.func28, Try.ntmps28
  go_wp2
  go_loop [3, 4] (fun s i => i = .int .i64 0 ∧ s = .int .i64 0) (fun _ _ => 0)
  case atStart => exact ⟨rfl, rfl⟩
  case round =>
    obtain ⟨rfl, rfl⟩ := hrel
    go_wp2
    go_ret
    exact ⟨rfl, Kpt.refl _⟩
theorem tog_all (v : Value) (zs : List Int) (w : World) (hr : Reads w v zs) (hn : ∀ z ∈ zs, 0 ≤ z) (hs : zs.sum ≤ 4611686018427387904) : Calls Try.prog 28 #[v] w fun e w' => e = .returned (.int .i64 zs.sum) ∧ Kpt w w' := by
  by_cases h0 : 0 < zs.length
  · exact together_kpt v zs w hr h0 hn hs
  · obtain ⟨a, cap, rfl, -⟩ := hr
    have e : zs = [] := List.eq_nil_of_length_eq_zero (by omega)
    subst e
    exact tog_nil a cap w
theorem nnB_of {zs : List Int} {n : Nat} (hl : zs.length = n) (h : ∀ j : Nat, j < n → 0 ≤ zs.getD j 0) : ∀ z ∈ zs, 0 ≤ z := fun z hz => by
  obtain ⟨j, hj, rfl⟩ := List.getElem_of_mem hz
  have := h j (by omega)
  rwa [List.getD_eq_getElem?_getD, List.getElem?_eq_getElem hj] at this

end Go.Proofs.Ytoakibgekeajeaa
