/-
  slices.Delete of one lot.
-/
import Derived.Test.YtbohdhiadgcljaaLotD
namespace Go.Proofs.Ytbohdhiadgcljaa
open Go.RowKit
set_option linter.unusedVariables false

def zeroL : List Value := [.int .i64 0, .int .i64 0, .int .i64 0]
theorem run_clear_lot (w : World) (ty : TypeId) (b o c : Nat) (hc : ∀ j, j < 3 → (w.cell? ⟨b, o + j, none⟩).isSome = true) (hf : ∀ j, j < 3 → w.frozen? ⟨b, o + j, none⟩ = false) :
    (Builtin.clear_ #[43] ty #[.slice (some ⟨b, o, none⟩) 1 c]).run Try.prog w = .ok (.tuple #[]) (w.setCells b o zeroL) := by
  have hv : ∀ w, (zeroValue 45).run Try.prog w = .ok (.agg #[.int .i64 0, .int .i64 0, .int .i64 0]) w := fun w => by kernel_rfl
  have hzc : (Builtin.zeroCells (Value.agg #[.int .i64 0, .int .i64 0, .int .i64 0]).cells 1).toList = zeroL := by kernel_rfl
  have hst := run_storeCells_cells (P := Try.prog) b o zeroL 0 w (by simpa [zeroL] using hc) (by simpa [zeroL] using hf) (by intro v hv'; simp [zeroL] at hv'; subst hv'; rfl)
  simp only [Nat.add_zero] at hst
  simp [Builtin.clear_, run_underlying Try.underlying43, hv, hzc, hst]

theorem own_erased {T : TypeId} {w w' : World} {B blk cap : Nat} {ps : List (Int × Int × Int)} (i : Nat) (hi : i < ps.length) (h : OwnsT T w B (.slice (some ⟨blk, 0, none⟩) ps.length cap) ps) (vs : List Value) (hvs : vs = flatP (ps.drop (i + 1)))
    (hw : w'.heap[blk]? = ((w.setCells blk (i * 3) vs).setCells blk ((ps.length - 1) * 3) zeroL).heap[blk]?) : OwnsT T w' B (.slice (some ⟨blk, 0, none⟩) (ps.length - 1) cap) (ps.eraseIdx i) := by
  obtain ⟨_, hg, cur, hh, hc, hm, hs, ht⟩ := h.opened
  have hl : (ps.eraseIdx i).length = ps.length - 1 := List.length_eraseIdx_of_lt hi
  have hvl : vs.length = (ps.length - (i + 1)) * 3 := by rw [hvs, flatP_len, List.length_drop]
  refine OwnsT.made (cur := putL (putL cur (i * 3) vs) ((ps.length - 1) * 3) zeroL) hl.symm hg ?_ (by omega) hm (by rw [putL_size, putL_size, hs]) ?_
  · rw [hw]
    exact heap_setCells _ _ (heap_setCells _ _ hh)
  · rw [hl]
    apply List.ext_getElem?
    intro j
    by_cases hj : j < (ps.length - 1) * 3
    · rw [List.getElem?_take_of_lt hj, Array.getElem?_toList, putL_at, if_neg (by omega), putL_at]
      rw [flatP_erase ps i j hi hj]
      have hcur : ∀ j, j < ps.length * 3 → cur[j]? = (flatP ps)[j]? := fun j hj => by
        rw [← ht, List.getElem?_take_of_lt hj, Array.getElem?_toList]
      by_cases h1 : j < i * 3
      · rw [if_neg (by omega), if_pos h1, hcur j (by omega)]
      · rw [if_pos (by rw [hvl]; omega), if_neg h1, hvs]
        have e : ps = ps.take (i + 1) ++ ps.drop (i + 1) := (List.take_append_drop _ _).symm
        have l1 : (flatP (ps.take (i + 1))).length = (i + 1) * 3 := by rw [flatP_len, List.length_take]; omega
        have e1 : flatP ps = flatP (ps.take (i + 1)) ++ flatP (ps.drop (i + 1)) := by rw [← flatP_append, ← e]
        rw [e1, List.getElem?_append_right (by omega), l1, show j + 3 - (i + 1) * 3 = j - i * 3 by omega]
    · rw [List.getElem?_take_eq_none (by omega), List.getElem?_eq_none (by rw [flatP_len, hl]; omega)]

set_option maxHeartbeats 2000000 in
set_option maxRecDepth 100000 in
theorem delete_run (w : World) (B blk cap i : Nat) (ps : List (Int × Int × Int)) (hi : i < ps.length) (hm : ps.length ≤ 100000) (h : OwnsT 45 w B (.slice (some ⟨blk, 0, none⟩) ps.length cap) ps) :
    Calls Try.prog 51 #[.slice (some ⟨blk, 0, none⟩) ps.length cap, .int .i64 i, .int .i64 ((i : Int) + 1)] w fun e w' => e = .returned (.slice (some ⟨blk, 0, none⟩) (ps.length - 1) cap) ∧ OwnsT 45 w' B (.slice (some ⟨blk, 0, none⟩) (ps.length - 1) cap) (ps.eraseIdx i) ∧ w.grownBy w' (some blk) := by
  obtain ⟨_, hg, cur, hh, hc, hmx, hs, ht⟩ := h.opened
  obtain ⟨i0, hi0, hz0, hz1, hz2⟩ := info_parts Try.infoLot
  obtain ⟨n, hn⟩ : ∃ n, n = ps.length := ⟨_, rfl⟩
  obtain ⟨news, hnews⟩ : ∃ news, news = flatP (ps.drop (i + 1)) := ⟨_, rfl⟩
  have hl : news.length = (n - (i + 1)) * 3 := by rw [hnews, flatP_len, List.length_drop, hn]
  have hcell : ∀ j, w.cell? ⟨blk, j, none⟩ = cur[j]? := fun j => cell_of_row w blk j cur _ (0, 0) hh
  have hfr : ∀ j, w.frozen? ⟨blk, j, none⟩ = false := fun j => by simp [World.frozen?, hh]
  have hsome : ∀ j, j < cap * 3 → (w.cell? ⟨blk, j, none⟩).isSome = true := fun j hj => by rw [hcell, Array.getElem?_eq_getElem (by omega)]; rfl
  have hget : ∀ t, t < (n - (i + 1)) * 3 → news[t]? = cur[(i + 1) * 3 + t]? := fun t ht' => by
    have e : ps = ps.take (i + 1) ++ ps.drop (i + 1) := (List.take_append_drop _ _).symm
    have l1 : (flatP (ps.take (i + 1))).length = (i + 1) * 3 := by rw [flatP_len, List.length_take]; omega
    have e1 : flatP ps = flatP (ps.take (i + 1)) ++ flatP (ps.drop (i + 1)) := by rw [← flatP_append, ← e]
    have hcur : cur[(i + 1) * 3 + t]? = (flatP ps)[(i + 1) * 3 + t]? := by
      rw [← ht, List.getElem?_take_of_lt (by omega), Array.getElem?_toList]
    rw [hcur, e1, List.getElem?_append_right (by omega), l1, show (i + 1) * 3 + t - (i + 1) * 3 = t by omega, hnews]
  obtain ⟨A, hA, hsrc⟩ : ∃ A : Addr, (if cap = i + 1 then some (⟨blk, 0, none⟩ : Addr) else some ⟨blk, (i + 1) * 3, none⟩) = some A ∧ Hid (∀ t u, news[t]? = some u → w.drew.cell? (A.add t) = some u) := by
    by_cases hq : cap = i + 1
    · refine ⟨⟨blk, 0, none⟩, by simp [hq], fun t u hu => ?_⟩
      have h0 : news.length = 0 := by rw [hl]; omega
      rw [List.length_eq_zero_iff.1 h0] at hu
      simp at hu
    · refine ⟨⟨blk, (i + 1) * 3, none⟩, by simp [hq], fun t u hu => ?_⟩
      have ht' : t < (n - (i + 1)) * 3 := by
        have := (List.getElem?_eq_some_iff.1 hu).1
        rwa [hl] at this
      rw [hget t ht'] at hu
      rw [Go.WideShapes.add_plain]
      exact (hcell _).trans hu
  have s1 := Lib.hid hl
  have s2 : Hid (∀ u ∈ news, u.oneCell' = true) := by rw [hnews]; exact flatP_one _
  have s3 : Hid (∀ t, t < news.length → (w.drew.cell? ⟨blk, 0 + i * 3 + t, none⟩).isSome = true ∧ w.drew.frozen? ⟨blk, 0 + i * 3 + t, none⟩ = false) := fun t ht' => by
    rw [hl] at ht'
    exact ⟨hsome _ (by omega), hfr _⟩
  obtain ⟨W1, hW1⟩ : ∃ W1, W1 = w.drew.setCells blk (0 + i * 3) news := ⟨_, rfl⟩
  have hW1h : W1.heap[blk]? = some (.cells (putL cur (i * 3) news) 45 (0, 0)) := by rw [hW1, Nat.zero_add]; exact heap_setCells news (i * 3) hh
  have hcl : ∀ ty, (Builtin.clear_ #[43] ty #[.slice (some ⟨blk, (n - 1) * 3, none⟩) 1 (cap - (n - 1))]).run Try.prog W1 = .ok (.tuple #[]) (W1.setCells blk ((n - 1) * 3) zeroL) := fun ty =>
    run_clear_lot W1 ty blk ((n - 1) * 3) _ (fun j hj => by
      rw [cell_of_row W1 blk _ _ _ (0, 0) hW1h, Array.getElem?_eq_getElem (by rw [putL_size]; omega)]; rfl) (fun j hj => by simp [World.frozen?, hW1h])
  have hcl2 : ∀ ty, (Builtin.clear_ #[43] ty #[.slice (some ⟨blk, (i + (n - (i + 1))) * 3, none⟩) (n - (i + (n - (i + 1)))) (cap - (i + (n - (i + 1))))]).run Try.prog W1 = .ok (.tuple #[]) (W1.setCells blk ((n - 1) * 3) zeroL) := fun ty => by
    rw [show i + (n - (i + 1)) = n - 1 by omega, show n - (n - 1) = 1 by omega]
    exact hcl ty
  clear hcl
  have HE := Lib.hid (fun w' => own_erased (w' := w') i hi (h.kpt (show Kpt w w.drew from Below.drew (Kpt.refl w))) news hnews)
  have HW := Lib.hid hW1
  have HN := Lib.hid hn
  rw [← hn] at hi hc hm ⊢
  clear hW1 hW1h hget hsome hcell hfr hnews hl ht hs hh h hn
  go_enter Try.func51, Try.ntmps51
  have hic : i ≤ cap := by omega
  have hjc : i + 1 ≤ cap := by omega
  have hz : (0 : Int) ≤ (i : Int) + 1 := by omega
  have hy : (i : Int) + 1 ≤ (n : Int) := by omega
  go_wp2_with fail
  go_region_law (refine step_append_room rfl (.tmp 22) (.tmp 25) 43 rfl 45 i0 3 Try.underlying43 hi0 hz1 blk 0 i cap (by simp [Act.eval, Act.put]) A (n - (i + 1)) (cap - (i + 1)) news (by simp [Act.eval, Act.put]) s1.out hsrc.out s2.out (by omega) s3.out ?_; rw [← HW.out])
  go_wp2
  go_ret
  refine ⟨by rw [show i + (n - (i + 1)) = n - 1 by omega]; rfl, ?_, ?_⟩
  · have e := HN.out
    subst e
    refine HE.out _ ?_
    rw [HW.out, Nat.zero_add]
  · rw [HW.out]
    obtain ⟨m1, m2, m3, m4⟩ := meta_setCells (w.drew.setCells blk (0 + i * 3) news) blk ((n - 1) * 3) zeroL
    obtain ⟨k1, k2, k3, k4⟩ := meta_setCells w.drew blk (0 + i * 3) news
    exact ⟨m1.trans k1, m2.trans k2, m3.trans k3, by rw [m4, k4]; exact Nat.le_refl _, fun k hk hne => by
      have hkb : k ≠ blk := fun e => hne (by rw [e])
      rw [heap_setCells_other _ _ _ _ _ hkb, heap_setCells_other _ _ _ _ _ hkb]
      rfl⟩

end Go.Proofs.Ytbohdhiadgcljaa
