/-
  TapeMany: what stands at the loop's head.
-/
import Derived.Test.YtljdffkelocfbaaLawTT
import Derived.Test.YtljdffkelocfbaaOpenS
namespace Go.Proofs.Ytljdffkelocfbaa
open Go.RowKit
set_option linter.unusedVariables false

theorem wp_appendS {ops : Array Oper} {rest : List Oper} {o : Oper} {a : Act} {Q : Exit → Act → World → Prop} (hgd : o.guard = none) (s x : Operand)
    (ho : o.op = .call { callee := .builtin .append, args := #[s, x], argTypes := #[28, 28] })
    (base : Nat) (v u : Value) (us : List Value) (w : World) (g c : Nat) (T' : TypeId) (hs : a.eval s = v) (hown : OwnsS w base v us) (hx : a.eval x = .slice (some ⟨g, 0, none⟩) 1 c) (hg : Blk w g #[u] T') (hu : u.oneCell' = true)
    (hlen : us.length + 1 ≤ 100000) (hbase : base ≤ w.heap.size)
    (h : ∀ v' w', OwnsS w' base v' (us ++ [u]) → w.grownBy w' v.ownBlock → wpList Try.prog ops Q rest (a.put o.dst v') w') : wpList Try.prog ops Q (o :: rest) a w := by
  obtain ⟨i0, hi, hz0, hz1, hz2⟩ := info_parts Try.infoSU
  refine wpList_append_own _ hgd s x 28 ho base 22 i0 _ 1 24 Try.underlying28 hi hz0 hz1 hz2 rfl (by decide) v _ _ hs hown ⟨g, 0, none⟩ 1 c [u] hx rfl ?_ (by intro z hz; simp at hz; subst hz; exact hu) ?_ ?_ hbase ?_
  · intro j z hz
    exact World.news_of_block hg j z hz
  · unfold maxLen; omega
  · omega
  · intro v' w' h1 h2 _
    refine h v' w' ?_ h2
    unfold OwnsS
    rw [List.length_append]
    exact h1
theorem OwnsU.low {w : World} {base b' : Nat} {v : Value} {bs : List Nat} (h : OwnsU w base v bs) (hb : b' ≤ base) : OwnsU w b' v bs := by
  refine ⟨h.1, ?_⟩
  rcases h.2 with h2 | ⟨k, cap, cur, e, hk, r⟩
  · exact .inl h2
  · exact .inr ⟨k, cap, cur, e, Nat.le_trans hb hk, r⟩
theorem OwnsS.ge {w : World} {base : Nat} {v : Value} {us : List Value} (h : OwnsS w base v us) : ∀ k, v.ownBlock = some k → base ≤ k := by
  rcases h.2 with ⟨rfl, -⟩ | ⟨k, cap, cur, rfl, hk, -⟩
  · intro k hk; cases hk
  · intro j hj; cases hj; exact hk
theorem readsS_rd {L : List (List Nat)} {w : World} {base : Nat} {v : Value} {us : List Value} (h4 : L.length ≤ 1000000) (ho : OwnsS w base v us) (hl : us.length = L.length) (he : ∀ k, k < us.length → ReadsU w (us.getD k undef) (L.getD k [])) : ReadsS w v L := by
  rcases ho.2 with ⟨rfl, hn⟩ | ⟨k, cap, cur, rfl, hk, hh, hn, hm, hs, ht⟩
  · refine ⟨none, 0, by rw [← hl, hn], by omega, ⟨Nat.zero_le _, by omega⟩, fun _ => rfl, fun j hj => by omega⟩
  · refine ⟨_, cap, by rw [hl], by omega, ⟨hm, by omega⟩, (fun e => by cases e), fun j hj => ⟨k, 0, us.getD j undef, rfl, ?_, ?_⟩⟩
    · rw [Nat.zero_add, cell_of_row w k j cur _ (0, 0) hh, ← Array.getElem?_toList]
      have : (cur.toList.take (us.length * 1))[j]? = us[j]? := by rw [ht]
      rw [List.getElem?_take_of_lt (by omega)] at this
      rw [this, List.getD_eq_getElem?_getD, List.getElem?_eq_getElem (by omega)]; rfl
    · exact he j (by omega)
/-- what has been put, and what is to be got -/
structure MS (w wr : World) (tv wv : Value) (T : List Nat) (us : List Value) : Prop where
  tO : OwnsU wr w.heap.size tv T
  tB : IsB T
  tl : T.length ≤ 4000
  te : ends (recs T) = T.length
  wO : OwnsS wr w.heap.size wv us
  ul : us.length = (recs T).length
  el : ∀ j, j < us.length → ReadsU w (us.getD j undef) ((recs T).getD j [])
  kp : Kpt w wr
theorem MS.start (w w' : World) (k : Kpt w w') : MS w w' (.slice none 0 0) (.slice none 0 0) [] [] where
  tO := OwnsU.nil _ _
  tB := fun x hx => by cases hx
  tl := by simp
  te := rfl
  wO := OwnsS.nil _ _
  ul := rfl
  el := fun j hj => absurd hj (by simp)
  kp := k
theorem MS.kpt {w wr w' : World} {tv wv : Value} {T : List Nat} {us : List Value} (h : MS w wr tv wv T us) (k : Kpt wr w') : MS w w' tv wv T us where
  tO := h.tO.kpt k
  tB := h.tB
  tl := h.tl
  te := h.te
  wO := h.wO.kpt k
  ul := h.ul
  el := h.el
  kp := ktr h.kp k
theorem MS.few {w wr : World} {tv wv : Value} {T : List Nat} {us : List Value} (h : MS w wr tv wv T us) : us.length ≤ 4000 := by
  have := recs_few T
  have := h.ul
  have := h.tl
  omega
theorem MS.reads {w wr : World} {tv wv : Value} {T : List Nat} {us : List Value} (h : MS w wr tv wv T us) : ReadsU wr tv T := h.tO.reads h.tB (by have := h.tl; omega)
theorem MS.want {w wr : World} {tv wv : Value} {T : List Nat} {us : List Value} (h : MS w wr tv wv T us) : ReadsS wr wv (recs T) := readsS_rd (by have := h.few; have := h.ul; omega) h.wO h.ul fun k hk => (h.el k hk).kpt h.kp
theorem MS.next {w wr w1 w2 : World} {tv wv p v' u : Value} {T b : List Nat} {us : List Value} (h : MS w wr tv wv T us) (hb : putE T b = 0) (hu : ReadsU w u b) (k : Kpt wr w1) (o : OwnsU w1 w.heap.size p (T ++ rcd b)) (own : OwnsS w2 w.heap.size v' (us ++ [u])) (g : ∃ tmp, (w1.alloc tmp).grownBy w2 wv.ownBlock) : MS w w2 p v' (T ++ rcd b) (us ++ [u]) := by
  obtain ⟨h4, p2, p3⟩ := putE_0 hb
  obtain ⟨tmp, g⟩ := g
  have h1 := h.kpt k
  have hr := recs_put h.te p2 (by omega)
  refine ⟨?_, isB_app.2 ⟨h.tB, rcd_is hu.isB⟩, by rw [List.length_append, rcd_len]; omega, ends_put h.te p2 (by omega), own, by rw [hr]; simp [h.ul], fun j hj => ?_, ?_⟩
  · exact (o.kpt ((Kpt.refl w1).alloc tmp)).grown (h1.wO.kpt ((Kpt.refl w1).alloc tmp)) g
  · rw [hr]
    by_cases hj' : j < us.length
    · rw [List.getD_eq_getElem?_getD, List.getElem?_append_left hj', List.getD_eq_getElem?_getD, List.getElem?_append_left (by have := h.ul; omega), ← List.getD_eq_getElem?_getD, ← List.getD_eq_getElem?_getD]
      exact h.el j hj'
    · obtain rfl : j = us.length := by simp at hj; omega
      have hul := h.ul
      rw [List.getD_eq_getElem?_getD, List.getElem?_append_right (Nat.le_refl _), List.getD_eq_getElem?_getD, List.getElem?_append_right (by omega), hul]
      simpa using hu
  · have hs := Below.size h1.kp
    exact ((Kpt.refl w).trans (h1.kp.alloc tmp)).grown g (by rw [World.size_alloc]; omega) h1.wO.ge

end Go.Proofs.Ytljdffkelocfbaa
