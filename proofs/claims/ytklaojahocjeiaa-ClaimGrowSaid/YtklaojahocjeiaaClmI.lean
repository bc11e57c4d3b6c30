/-
  Fails of the call's own, of which a cell is written; what grows.
-/
import Derived.Test.YtklaojahocjeiaaClmH
namespace Go.Proofs.Ytklaojahocjeiaa
open Go.RowKit
set_option linter.unusedVariables false

/-- a fail with other units -/
def upd (l : List Int) (z : Int) : List Int := (List.range 10).map fun j => if j = 6 then z else l.getD j 0
theorem upd_at (l : List Int) (z : Int) {j : Nat} (h : j < 10) : (upd l z).getD j 0 = if j = 6 then z else l.getD j 0 := by
  unfold upd
  rw [List.getD_eq_getElem?_getD, List.getElem?_map, List.getElem?_range h]
  rfl
theorem flatN_put (c : List (List Int)) (k : Nat) (hk : k < c.length) (z : Int) : (flatN 10 c).set (k * 10 + 6) (.int .i64 z) = flatN 10 (c.set k (upd (c.getD k []) z)) := by
  apply List.ext_getElem?
  intro i
  by_cases hi : i < c.length * 10
  · obtain ⟨q, r, hr, rfl⟩ : ∃ q r, r < 10 ∧ i = q * 10 + r := ⟨i / 10, i % 10, by omega, by omega⟩
    have hq : q < c.length := by omega
    rw [flatN_at _ q r (by rw [List.length_set]; exact hq) hr, List.getElem?_set, flatN_len]
    by_cases e : q = k
    · subst e
      have e2 : (c.set q (upd (c.getD q []) z)).getD q [] = upd (c.getD q []) z := by
        rw [List.getD_eq_getElem?_getD, List.getElem?_set, if_pos rfl, if_pos hq]; rfl
      rw [e2, upd_at _ _ hr]
      by_cases e3 : r = 6
      · subst e3; rw [if_pos rfl, if_pos rfl, if_pos (by omega)]
      · rw [if_neg (by omega), if_neg e3, flatN_at c q r hq hr]
    · have e2 : (c.set k (upd (c.getD k []) z)).getD q [] = c.getD q [] := by
        rw [List.getD_eq_getElem?_getD, List.getElem?_set, if_neg (fun h => e h.symm), ← List.getD_eq_getElem?_getD]
      rw [e2, if_neg (by omega), flatN_at c q r hq hr]
  · rw [List.getElem?_eq_none (by rw [List.length_set, flatN_len]; omega), List.getElem?_eq_none (by rw [flatN_len, List.length_set]; omega)]
theorem OwnsN.opened {T : TypeId} {w : World} {B : Nat} {v : Value} {c : List (List Int)} (h : OwnsN 10 T w B v c) (h0 : 0 < c.length) : ∃ g cap cur, v = .slice (some ⟨g, 0, none⟩) c.length cap ∧ B ≤ g ∧ Blk w g cur T ∧ (∀ k j, k < c.length → j < 10 → w.cell? ⟨g, k * 10 + j, none⟩ = some (.int .i64 ((c.getD k []).getD j 0))) ∧
    ∀ k z, k < c.length → OwnsN 10 T (w.setCell ⟨g, k * 10 + 6, none⟩ (.int .i64 z)) B v (c.set k (upd (c.getD k []) z)) := by
  have hcs := h.cells
  rcases h.2 with ⟨rfl, hn⟩ | ⟨g, cap, cur, rfl, hg, hh, hn, hm, hs, ht⟩
  · omega
  · refine ⟨g, cap, cur, rfl, hg, hh, fun k j hk hj => ?_, fun k z hk => ?_⟩
    · obtain ⟨a, cap', e, -, hc⟩ := hcs
      obtain ⟨g', e', h'⟩ := hc k hk
      injection e with e1 _ _
      rw [← e1] at e'
      injection e' with e'
      injection e' with e' _ _
      subst e'
      exact h' j hj
    · have hb := Blk.put (show Blk w g cur T from hh) (k * 10 + 6) (.int .i64 z)
      refine ⟨by rw [flatN_len], ?_⟩
      rw [List.length_set]
      refine .inr ⟨g, cap, _, rfl, hg, hb, hn, hm, by rw [Array.size_setIfInBounds]; exact hs, ?_⟩
      rw [Array.toList_setIfInBounds, List.take_set, ht]
      exact flatN_put c k hk z
theorem OwnsN.own {T : TypeId} {w w' : World} {base : Nat} {u : Value} {fs : List (List Int)} {row : Option Nat} (h : OwnsN 10 T w base u fs) (g : w.grownBy w' row) (hr : ∀ r, row = some r → ∃ o : Obj, w.heap[r]? = some o ∧ o.isCells = false) : OwnsN 10 T w' base u fs := by
  obtain ⟨h1, h2⟩ := h
  refine ⟨h1, ?_⟩
  rcases h2 with h2 | ⟨k, cap, cur, rfl, hk, hh, r⟩
  · exact .inl h2
  · exact .inr ⟨k, cap, cur, rfl, hk, (g.block k (heap_lt hh) (fun e => by obtain ⟨o, ho, hc⟩ := hr k e.symm; rw [hh] at ho; cases ho; cases hc)).trans hh, r⟩
theorem OwnsN.away {T e : TypeId} {w : World} {B b : Nat} {v : Value} {c : List (List Int)} {cs : Array Value} (h : OwnsN 10 T w B v c) (hb : Blk w b cs e) (hT : T ≠ e) (o : Nat) (u : Value) : OwnsN 10 T (w.setCell ⟨b, o, none⟩ u) B v c := by
  obtain ⟨h1, h2⟩ := h
  refine ⟨h1, ?_⟩
  rcases h2 with h2 | ⟨k, cap, cur, rfl, hk, hh, r⟩
  · exact .inl h2
  · refine .inr ⟨k, cap, cur, rfl, hk, ?_, r⟩
    exact Blk.away (show Blk w k cur T from hh) (p := ⟨b, o, none⟩) (fun e' => hT (by
      have e'' : k = b := e'
      subst e''
      rw [show w.heap[k]? = _ from hb] at hh
      cases hh; rfl)) u
theorem Blk.apart {w : World} {g b : Nat} {cs ds : Array Value} {T e : TypeId} (h : Blk w g cs T) (k : Blk w b ds e) (hT : T ≠ e) : g ≠ b := fun q => hT (by
  subst q
  have k' : w.heap[g]? = some (.cells ds e (0, 0)) := k
  rw [show w.heap[g]? = _ from h] at k'
  cases k'; rfl)

theorem OwnsN.put {T : TypeId} {w : World} {B g n cp k : Nat} {c : List (List Int)} (h : OwnsN 10 T w B (.slice (some ⟨g, 0, none⟩) n cp) c) (hk : k < c.length) (z : Int) : OwnsN 10 T (w.setCell ⟨g, k * 10 + 6, none⟩ (.int .i64 z)) B (.slice (some ⟨g, 0, none⟩) n cp) (c.set k (upd (c.getD k []) z)) := by
  obtain ⟨g', cp', cur, e, -, -, -, hp⟩ := h.opened (by omega)
  injection e with e1 _ _
  injection e1 with e1
  injection e1 with e1 _ _
  subst e1
  exact hp k z hk
def unL (c : List (List Int)) (k : Nat) : Int := (c.getD k []).getD 6 0
/-- what stands behind one more place -/
def gst (G O : Int) (fs c : List (List Int)) (x : Fin fs.length) : List (List Int) := c.set x.1 (upd (c.getD x.1 []) (IntKind.i64.wrap (unL c x.1 + hoN G O (openL (fs.getD x.1 [])))))
def gro (G O : Int) (fs : List (List Int)) (xs : List (Fin fs.length)) : List (List Int) := xs.foldl (gst G O fs) fs
theorem gro_s (G O : Int) (fs : List (List Int)) (xs : List (Fin fs.length)) (x : Fin fs.length) : gro G O fs (xs ++ [x]) = gst G O fs (gro G O fs xs) x := by simp [gro]
theorem gro_len (G O : Int) (fs : List (List Int)) (xs : List (Fin fs.length)) : (gro G O fs xs).length = fs.length := by
  unfold gro
  suffices h : ∀ c : List (List Int), (xs.foldl (gst G O fs) c).length = c.length from h fs
  induction xs with
  | nil => intro c; rfl
  | cons x xs ih => intro c; rw [List.foldl_cons, ih]; unfold gst; rw [List.length_set]
theorem gro_un (G O : Int) (fs : List (List Int)) (xs : List (Fin fs.length)) (x : Fin fs.length) : unL (gro G O fs (xs ++ [x])) x.1 = IntKind.i64.wrap (unL (gro G O fs xs) x.1 + hoN G O (openL (fs.getD x.1 []))) := by
  have hx : x.1 < (gro G O fs xs).length := by rw [gro_len]; exact x.2
  have e : (gst G O fs (gro G O fs xs) x).getD x.1 [] = upd ((gro G O fs xs).getD x.1 []) (IntKind.i64.wrap (unL (gro G O fs xs) x.1 + hoN G O (openL (fs.getD x.1 [])))) := by
    unfold gst
    rw [List.getD_eq_getElem?_getD, List.getElem?_set, if_pos rfl, if_pos hx]; rfl
  rw [gro_s]
  unfold unL at e ⊢
  rw [e, upd_at _ _ (by omega), if_pos rfl]
/-- nothing has grown too large -/
def GOk (G O : Int) (fs : List (List Int)) (xs : List (Fin fs.length)) : Prop := ∀ pre x, pre ++ [x] <+: xs → unL (gro G O fs (pre ++ [x])) x.1 ≤ 1073741824
theorem gok_0 (G O : Int) (fs : List (List Int)) : GOk G O fs [] := fun pre x h => by
  have := List.prefix_nil.1 h
  simp at this
theorem gok_s {G O : Int} {fs : List (List Int)} {xs : List (Fin fs.length)} (h : GOk G O fs xs) (x : Fin fs.length) (hx : unL (gro G O fs (xs ++ [x])) x.1 ≤ 1073741824) : GOk G O fs (xs ++ [x]) := fun pre y hp => by
  rcases List.prefix_concat_iff.1 hp with e | e
  · have := List.append_inj' e rfl
    obtain ⟨rfl, e2⟩ := this
    simp at e2
    subst e2
    exact hx
  · exact h pre y e

end Go.Proofs.Ytklaojahocjeiaa
