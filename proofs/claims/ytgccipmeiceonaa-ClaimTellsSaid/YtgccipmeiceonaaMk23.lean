/-
  Merged: IdsOk.
-/
import Derived.Test.YtgccipmeiceonaaMk11
-- IdsOk
namespace Go.Proofs.Ytgccipmeiceonaa
open Go.RowKit
set_option linter.unusedVariables false

theorem ids_ok {ids : List Int} {fs : List (List Int)} : idsE ids fs = 0 ↔ (∀ l ∈ fs, failEL l = 0) ∧ (idsOf fs).Nodup ∧ ∀ l ∈ fs, l.getD 0 0 ∉ ids := by
  induction fs generalizing ids with
  | nil => simp [idsE, idsOf]
  | cons l fs ih =>
    unfold idsE
    have e : idsOf (l :: fs) = l.getD 0 0 :: idsOf fs := rfl
    rw [e, List.nodup_cons]
    by_cases h1 : failEL l ≠ 0
    · rw [if_pos h1]
      constructor
      · exact fun h => absurd h h1
      · exact fun h => absurd (h.1 l (by simp)) h1
    · rw [if_neg h1]
      have h1 : failEL l = 0 := by omega
      by_cases h2 : l.getD 0 0 ∈ ids
      · rw [if_pos h2]
        constructor
        · intro h; omega
        · exact fun h => absurd h2 (h.2.2 l (by simp))
      · rw [if_neg h2, ih]
        constructor
        · rintro ⟨a, b, c⟩
          refine ⟨fun m hm => ?_, ⟨fun hm => ?_, b⟩, fun m hm => ?_⟩
          · rcases List.mem_cons.1 hm with rfl | hm
            · exact h1
            · exact a m hm
          · obtain ⟨m, hm, e⟩ := List.mem_map.1 hm
            exact c m hm (by rw [e]; simp)
          · rcases List.mem_cons.1 hm with rfl | hm
            · exact h2
            · exact fun h => c m hm (List.mem_append_left _ h)
        · rintro ⟨a, ⟨b1, b2⟩, c⟩
          refine ⟨fun m hm => a m (by simp [hm]), b2, fun m hm h => ?_⟩
          rcases List.mem_append.1 h with h | h
          · exact c m (by simp [hm]) h
          · exact b1 (List.mem_map.2 ⟨m, hm, by simpa using h⟩)
theorem checks_sub {fs gs : List (List Int)} (s : gs.Sublist fs) (h : checksE fs = 0) : checksE gs = 0 := by
  have hl := s.length_le
  unfold checksE at h ⊢
  split at h
  · cases h
  · rename_i h6
    rw [if_neg (by omega)]
    obtain ⟨h1, h2, h3⟩ := ids_ok.1 h
    exact ids_ok.2 ⟨fun l hl => h1 l (s.subset hl), (s.map fun l : List Int => l.getD 0 0).nodup (show (fs.map fun l => l.getD 0 0).Nodup from h2), fun l hl => h3 l (s.subset hl)⟩
theorem checks_one {l : List Int} (h : failEL l = 0) : checksE [l] = 0 := by
  unfold checksE
  rw [if_neg (by simp)]
  exact ids_ok.2 ⟨fun m hm => by simp at hm; subst hm; exact h, by simp [idsOf], fun m hm => by simp⟩
/-- those ahead of a place, and those from it on -/
theorem ReadsF.take {w : World} {a : Option Addr} {n cap : Nat} {fs : List (List Int)} (h : ReadsF w (.slice a n cap) fs) (k : Nat) (hk : k ≤ fs.length) : ReadsF w (.slice a k cap) (fs.take k) := by
  obtain ⟨a', cap', e, hm, hb, hc⟩ := h
  injection e with e1 e2 e3
  subst e1; subst e3
  have hl : (fs.take k).length = k := by rw [List.length_take]; omega
  refine ⟨_, cap, by rw [hl], by omega, fun p hp => hb p (List.mem_of_mem_take hp), fun j hj => ?_⟩
  obtain ⟨b, off, e, h⟩ := hc j (by omega)
  refine ⟨b, off, e, ?_⟩
  have : (fs.take k).getD j [] = fs.getD j [] := by
    rw [List.getD_eq_getElem?_getD, List.getD_eq_getElem?_getD, List.getElem?_take_of_lt (by omega)]
  rw [this]
  exact h
theorem ReadsF.drop {w : World} {b off n cap : Nat} {fs : List (List Int)} (h : ReadsF w (.slice (some ⟨b, off, none⟩) n cap) fs) (k : Nat) (hk : k ≤ fs.length) : ReadsF w (.slice (some ⟨b, off + k * 10, none⟩) (n - k) (cap - k)) (fs.drop k) := by
  obtain ⟨a', cap', e, hm, hb, hc⟩ := h
  injection e with e1 e2 e3
  subst e1; subst e3; subst e2
  have hl : (fs.drop k).length = fs.length - k := List.length_drop
  refine ⟨_, cap - k, by rw [hl], by omega, fun p hp => hb p (List.mem_of_mem_drop hp), fun j hj => ?_⟩
  obtain ⟨b', off', e, h⟩ := hc (k + j) (by omega)
  simp only [Option.some.injEq, Addr.mk.injEq] at e
  obtain ⟨rfl, rfl, -⟩ := e
  refine ⟨b, off + k * 10, rfl, ?_⟩
  have : (fs.drop k).getD j [] = fs.getD (k + j) [] := by
    rw [List.getD_eq_getElem?_getD, List.getD_eq_getElem?_getD, List.getElem?_drop]
  rw [this, show off + k * 10 + j * 10 = off + (k + j) * 10 by omega]
  exact h
theorem readsF_nil (w : World) (a : Option Addr) (cap : Nat) : ReadsF w (.slice a 0 cap) [] := ⟨a, cap, rfl, Nat.zero_le _, fun l hl => absurd hl (by simp), fun k hk => absurd hk (Nat.not_lt_zero k)⟩

end Go.Proofs.Ytgccipmeiceonaa
