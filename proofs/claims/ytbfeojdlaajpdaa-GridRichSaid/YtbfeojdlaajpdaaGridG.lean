/-
  What Solve of package grid does.
-/
import Derived.Test.YtbfeojdlaajpdaaGridF
namespace Go.Proofs.Ytbfeojdlaajpdaa
open Go.RowKit
set_option linter.unusedVariables false

theorem last_ex {P : Nat → Prop} (n : Nat) (h : ∃ k, k < n ∧ P k) : ∃ k, k < n ∧ P k ∧ ∀ j, k < j → j < n → ¬ P j := by
  induction n with
  | zero => obtain ⟨k, h, -⟩ := h; omega
  | succ n ih =>
    by_cases hn : P n
    · exact ⟨n, by omega, hn, fun j h1 h2 => by omega⟩
    · obtain ⟨k, hk, hp⟩ := h
      have : k ≠ n := fun e => hn (e ▸ hp)
      obtain ⟨k', h1, h2, h3⟩ := ih ⟨k, by omega, hp⟩
      refine ⟨k', by omega, h2, fun j h4 h5 => ?_⟩
      by_cases e : j = n
      · exact e ▸ hn
      · exact h3 j h4 (by omega)
theorem flows_pos {l : List (Int × Int × Int)} (hl : ∀ p ∈ l, dueO p) (q : Nat) (d : List Nat) (hd : ∀ i ∈ d, i < l.length) (hq : ∀ i ∈ d, (l.getD i default).1 ≠ (q : Int)) : 0 ≤ flows l q d := by
  induction d with
  | nil => simp [flows]
  | cons i d ih =>
    have h1 := ih (fun j hj => hd j (by simp [hj])) fun j hj => hq j (by simp [hj])
    have h2 := hq i (by simp)
    have h3 := due_t (hl _ (getP_mem (hd i (by simp)))).1
    simp only [flows]
    unfold flow
    rw [if_neg h2]
    split <;> omega
/-- a party that is short owes one of them -/
theorem last_due {ps : List (Int × Int × Int)} {has : List Int} (hg : gridE has ps = 0) {ds : List Nat} (hd : ∀ i ∈ ds, i < ps.length) {q : Nat} (hq : q < 31) (hs : (settleF ps has ds).getD q 0 < 0) :
    ∃ k, k < ds.length ∧ (ps.getD (ds.getD k 0) default).1 = (q : Int) ∧ ∀ j, k < j → j < ds.length → (ps.getD (ds.getD j 0) default).1 ≠ (q : Int) := by
  obtain ⟨h31, hz, hm, hdu, -⟩ := grid_0 hg
  refine last_ex (P := fun k => (ps.getD (ds.getD k 0) default).1 = (q : Int)) ds.length ?_
  apply Classical.byContradiction
  intro hno
  rw [settle_at hdu ds hd has h31 q hq] at hs
  have h1 := has_t (hz _ (getD_mem (show q < has.length by omega)))
  have h2 := flows_pos hdu q ds hd fun i hi he => by
    obtain ⟨j, hj, rfl⟩ := List.mem_iff_getElem.1 hi
    refine hno ⟨j, hj, ?_⟩
    rw [show ds.getD j 0 = ds[j] by rw [List.getD_eq_getElem?_getD, List.getElem?_eq_getElem hj]; rfl]
    exact he
  omega
theorem incN_up {a b : Nat} {d : List Nat} (h : incN b d) (hab : a ≤ b) : incN a d := by
  cases d with
  | nil => trivial
  | cons i d => exact ⟨by have := h.1; omega, h.2⟩
theorem incN_erase {a : Nat} {d : List Nat} (h : incN a d) (k : Nat) : incN a (d.eraseIdx k) := by
  induction d generalizing a k with
  | nil => simpa using h
  | cons i d ih =>
    cases k with
    | zero => exact incN_up h.2 (by have := h.1; omega)
    | succ k => exact ⟨h.1, ih h.2 k⟩
theorem ints_erase (ds : List Nat) (k : Nat) : ints (ds.eraseIdx k) = (ints ds).eraseIdx k := by
  unfold ints
  rw [List.eraseIdx_eq_take_drop_succ, List.eraseIdx_eq_take_drop_succ, List.map_append, List.map_take, List.map_drop]
theorem OwnI.del {w : World} {g : Nat} {zs : List Int} (h : OwnI w g zs) (k : Nat) (hk : k < zs.length) (q : Nat) {vs : List Value} (hv : vs = (zs.eraseIdx k ++ [0]).map (Value.int .i64)) : OwnI ((w.drewN q).setCells g 0 vs) g (zs.eraseIdx k) := by
  have h0 := h.kpt ((Kpt.refl w).drewN q)
  obtain ⟨cur, h1, h2, h3⟩ := h0
  have hl : (zs.eraseIdx k).length = zs.length - 1 := by rw [List.length_eraseIdx_of_lt hk]
  refine ⟨_, heap_setCells vs 0 h1, by rw [putL_size]; omega, fun j hj => ?_⟩
  rw [putL_at, if_pos ⟨Nat.zero_le _, by subst hv; simp; omega, by omega⟩, hv, Nat.sub_zero, List.getElem?_map, List.getElem?_append_left hj, List.getElem?_eq_getElem hj, List.getD_eq_getElem?_getD, List.getElem?_eq_getElem hj]
  rfl
/-- the first k filled in -/
def fillN (n k : Nat) : List Int := (List.range n).map fun j => if j < k then (j : Int) else 0
theorem fill_len (n k : Nat) : (fillN n k).length = n := by simp [fillN]
theorem fill_zero (n : Nat) : fillN n 0 = List.replicate n 0 := by
  apply List.ext_getElem <;> simp [fillN]
theorem fill_all (n : Nat) : fillN n n = ints (List.range n) := by
  apply List.ext_getElem
  · simp [fillN, ints]
  · intro i h1 h2
    simp [fillN, ints] at h1 ⊢
    intro h; omega
theorem fill_set (n k : Nat) : (fillN n k).set k (k : Int) = fillN n (k + 1) := by
  apply List.ext_getElem
  · simp [fillN]
  · intro i h1 h2
    rw [List.getElem_set]
    by_cases h : k = i
    · subst h; simp [fillN]
    · rw [if_neg h]
      simp only [fillN, List.getElem_map, List.getElem_range]
      by_cases h3 : i < k
      · rw [if_pos h3, if_pos (by omega)]
      · rw [if_neg h3, if_neg (by omega)]
theorem incN_range' (a n : Nat) : incN a (List.range' a n) := by
  induction n generalizing a with
  | zero => trivial
  | succ n ih => rw [List.range'_succ]; exact ⟨Nat.le_refl _, ih (a + 1)⟩
theorem incN_range (n : Nat) : incN 0 (List.range n) := by rw [List.range_eq_range']; exact incN_range' 0 n
def slen : Value → Nat
  | .slice _ n _ => n
  | _ => 0
theorem delI_run (g m n k : Nat) (zs : List Int) (w : World) (ho : OwnI w g zs) (hm : m = zs.length) (hn : m ≤ n) (hb : n ≤ 1000) (hk : k < m) :
    Calls Try.prog 49 #[.slice (some ⟨g, 0, none⟩) m n, .int .i64 (k : Int), .int .i64 ((k : Int) + 1)] w fun e w' => e = .returned (.slice (some ⟨g, 0, none⟩) (m - 1) n) ∧ OwnI w' g (zs.eraseIdx k) ∧ ∀ w0, Kpt w0 w → w0.heap.size ≤ g → Kpt w0 w' := by
  have := Try.slices_Delete_int_cells g 0 m n k (k + 1) zs w (by omega) hn (by omega) (by omega) (by omega) (fun j hj => by rw [Nat.zero_add]; exact ho.cell hj) (fun j hj => by rw [Nat.zero_add]; exact ho.frozen j)
  rw [show ((k + 1 : Nat) : Int) = (k : Int) + 1 by omega] at this
  refine this.mono ?_
  rintro e w' ⟨rfl, q, rfl⟩
  refine ⟨by rw [show k + 1 - k = 1 by omega], ho.del k (by omega) q ?_, fun w0 h0 hg => (h0.drewN q).setCells hg _ _⟩
  rw [hm, List.take_length, List.eraseIdx_eq_take_drop_succ, show k + 1 - k = 1 by omega]
  rfl

theorem solve_bad (v vl : Value) (has : List Int) (ps : List (Int × Int × Int)) (w : World) (hr : Reads w v has) (hp : ReadsP w vl ps) (hg : gridE has ps ≠ 0) :
    Calls Try.prog 14 #[v, vl] w fun e w' => e = .returned (.tuple #[.slice none 0 0, .int .i64 (gridE has ps)]) ∧ Kpt w w' := by
  have GC := Lib.hid (gridCheck_run v vl has ps w hr hp)
  clear hr hp
  generalize gridE has ps = E at *
  go_enter Try.func14, Try.ntmps14
  go_wp2_with (go_at_call 21; (with_reducible refine GC.out.mono ?_); rintro e w1 ⟨rfl, g1⟩)
  exact bodyPost_ret (v := .tuple #[.slice none 0 0, .int .i64 E]) (by simp [results, Try.results14, go_sem]) rfl ⟨rfl, g1.kpt⟩

end Go.Proofs.Ytbfeojdlaajpdaa
