/-
  What SumOf of the reference does.
-/
import Derived.Test.YtcpfldlcocencaaOwn
import Derived.Test.YtcpfldlcocencaaKept
import Derived.Test.YtcpfldlcocencaaBetween
import Derived.Test.YtcpfldlcocencaaExactOf
namespace Go.Proofs.Ytcpfldlcocencaa
open Go.RowKit
set_option linter.unusedVariables false

def posL (zs : List Int) : List Int := zs.filter fun z => decide (0 ≤ z)
def negL (zs : List Int) : List Int := zs.filter fun z => decide (z < 0)
theorem part_sum (zs : List Int) : (posL zs).sum + (negL zs).sum = zs.sum := by
  induction zs with
  | nil => rfl
  | cons z l ih =>
    unfold posL negL at *
    rw [List.filter_cons, List.filter_cons, List.sum_cons]
    by_cases h : 0 ≤ z
    · rw [if_pos (by simpa using h), if_neg (by simpa using h), List.sum_cons]; omega
    · rw [if_neg (by simpa using h), if_pos (by simp; omega), List.sum_cons]; omega
theorem pos_more {zs : List Int} {k : Nat} (hk : k < zs.length) (h : 0 ≤ zs.getD k 0) : posL (zs.take (k + 1)) = posL (zs.take k) ++ [zs.getD k 0] ∧ negL (zs.take (k + 1)) = negL (zs.take k) := by
  unfold posL negL
  rw [List.getD_eq_getElem?_getD, List.getElem?_eq_getElem hk] at *
  simp only [Option.getD_some] at *
  rw [List.take_succ_eq_append_getElem hk, List.filter_append, List.filter_append, List.filter_cons_of_pos (by simpa using h), List.filter_cons_of_neg (by simpa using h)]
  simp
theorem neg_more {zs : List Int} {k : Nat} (hk : k < zs.length) (h : zs.getD k 0 < 0) : negL (zs.take (k + 1)) = negL (zs.take k) ++ [zs.getD k 0] ∧ posL (zs.take (k + 1)) = posL (zs.take k) := by
  unfold posL negL
  rw [List.getD_eq_getElem?_getD, List.getElem?_eq_getElem hk] at *
  simp only [Option.getD_some] at *
  rw [List.take_succ_eq_append_getElem hk, List.filter_append, List.filter_append, List.filter_cons_of_pos (by simpa using h), List.filter_cons_of_neg (by simp; omega)]
  simp
theorem part_len (zs : List Int) (k : Nat) : (posL (zs.take k)).length ≤ zs.length ∧ (negL (zs.take k)).length ≤ zs.length := by
  have h1 := List.length_filter_le (fun z : Int => decide (0 ≤ z)) (zs.take k)
  have h2 := List.length_filter_le (fun z : Int => decide (z < 0)) (zs.take k)
  rw [List.length_take] at h1 h2
  unfold posL negL
  omega

/-- so far: what is added, what is left above nought, what is left below -/
structure Halves (T S : Int) (M L : List Int) : Prop where
  all : S + M.sum + L.sum = T
  up : ∀ z ∈ M, 0 ≤ z ∧ z ≤ 1152921504606846976
  dn : ∀ z ∈ L, -1152921504606846976 ≤ z ∧ z < 0
  lo : -2305843009213693952 ≤ S
  hi : S ≤ 2305843009213693952
theorem halves_start {zs : List Int} (ha : ∀ z ∈ zs, amtB z = true) : Halves zs.sum 0 (posL zs) (negL zs) := by
  refine ⟨by rw [Int.zero_add, part_sum], fun z hz => ?_, fun z hz => ?_, by decide, by decide⟩
  · obtain ⟨h1, h2⟩ := List.mem_filter.1 hz
    exact ⟨by simpa using h2, (amt_t (ha z h1)).2⟩
  · obtain ⟨h1, h2⟩ := List.mem_filter.1 hz
    exact ⟨(amt_t (ha z h1)).1, by simpa using h2⟩
theorem sum_up {M : List Int} (h : ∀ z ∈ M, 0 ≤ z ∧ z ≤ 1152921504606846976) : 0 ≤ M.sum := by
  induction M with
  | nil => exact Int.le_refl _
  | cons z l ih => have := ih fun x hx => h x (by simp [hx]); have := h z (by simp); rw [List.sum_cons]; omega
theorem sum_dn {M : List Int} (h : ∀ z ∈ M, -1152921504606846976 ≤ z ∧ z < 0) : M.sum ≤ 0 := by
  induction M with
  | nil => exact Int.le_refl _
  | cons z l ih => have := ih fun x hx => h x (by simp [hx]); have := h z (by simp); rw [List.sum_cons]; omega
/-- one more from above: it stays within, or it is no amount at all -/
theorem halves_up {T S z : Int} {M L : List Int} (h : Halves T S (z :: M) L) (hc : L = [] ∨ S ≤ 0) : (-2305843009213693952 ≤ S + z) ∧ ((S + z ≤ 2305843009213693952 ∧ Halves T (S + z) M L) ∨ (2305843009213693952 < S + z ∧ amtB T = false)) := by
  have hz := h.up z (by simp)
  have ha := h.all
  rw [List.sum_cons] at ha
  have hl := h.lo
  refine ⟨by omega, ?_⟩
  by_cases q : S + z ≤ 2305843009213693952
  · exact .inl ⟨q, by omega, fun x hx => h.up x (by simp [hx]), h.dn, by omega, q⟩
  · rcases hc with rfl | hc
    · have := sum_up fun x hx => h.up x (List.mem_cons_of_mem z hx)
      simp at ha
      exact .inr ⟨by omega, amt_no (by omega)⟩
    · omega
theorem halves_dn {T S z : Int} {M L : List Int} (h : Halves T S M (z :: L)) (hc : M = [] ∨ 0 < S) : (S + z ≤ 2305843009213693952) ∧ ((-2305843009213693952 ≤ S + z ∧ Halves T (S + z) M L) ∨ (S + z < -2305843009213693952 ∧ amtB T = false)) := by
  have hz := h.dn z (by simp)
  have ha := h.all
  rw [List.sum_cons] at ha
  have hl := h.hi
  refine ⟨by omega, ?_⟩
  by_cases q : -2305843009213693952 ≤ S + z
  · exact .inl ⟨q, by omega, h.up, fun x hx => h.dn x (by simp [hx]), q, by omega⟩
  · rcases hc with rfl | hc
    · have := sum_dn fun x hx => h.dn x (List.mem_cons_of_mem z hx)
      simp at ha
      exact .inr ⟨by omega, amt_no (by omega)⟩
    · omega
theorem halves_end {T S : Int} (h : Halves T S [] []) : S = T := by have := h.all; simpa using this

/-- a slice that is long enough, and reads as a list -/
def ReadsN (w : World) (v : Value) (zs : List Int) : Prop := ∃ (a : Option Addr) (cap : Nat), v = .slice a zs.length cap ∧ zs.length ≤ cap ∧ cap ≤ maxLen ∧ Reads w v zs
theorem ReadsN.kpt {w w' : World} {v : Value} {zs : List Int} (h : ReadsN w v zs) (g : Kpt w w') : ReadsN w' v zs := by
  obtain ⟨a, c, e, hc, hm, hr⟩ := h
  exact ⟨a, c, e, hc, hm, hr.kpt g⟩
theorem Owns.readsN {w : World} {base : Nat} {v : Value} {zs : List Int} (h : Owns w base v zs) : ReadsN w v zs := by
  obtain ⟨a, cap, hv, hr⟩ := h.reads
  refine ⟨a, cap, hv, ?_, ?_, hr⟩
  all_goals
    rcases h.2 with ⟨e, hn⟩ | ⟨k, cap', cur, e, hk, hh, hn, hm, _⟩
    · rw [hv] at e; injection e with _ _ e; omega
    · rw [hv] at e; injection e with _ _ e; omega
theorem ReadsN.slot {w : World} {v : Value} {zs : List Int} (h : ReadsN w v zs) : ∃ (a : Option Addr) (n cap : Nat), v = .slice a n cap ∧ Hid (n = zs.length) ∧ n ≤ 9223372036854775807 := by
  obtain ⟨a, cap, rfl, h1, h2, hr⟩ := h
  exact ⟨a, _, cap, rfl, rfl, by unfold maxLen at h2; omega⟩
theorem ReadsN.parts {w : World} {v : Value} {z : Int} {zs : List Int} (h : ReadsN w v (z :: zs)) : ∃ (b off n cap : Nat), v = .slice (some ⟨b, off, none⟩) n cap ∧ Hid (n = zs.length + 1) ∧ 0 < n ∧ n ≤ cap ∧ n ≤ 9223372036854775807 ∧ cap ≤ 9223372036854775807 ∧ w.cell? ⟨b, off, none⟩ = some (.int .i64 z) ∧ (cap = 1 → n = 1 ∧ Hid (zs = [])) ∧ (cap ≠ 1 → Hid (ReadsN w (.slice (some ⟨b, off + 1, none⟩) (n - 1) (cap - 1)) zs)) := by
  obtain ⟨a, cap, rfl, hcap, hcm, hr⟩ := h
  have hl := hr.len
  unfold maxLen at hl hcm
  rcases hr.cell with ⟨e, _⟩ | ⟨_, b, off, cap', e, hc⟩
  · cases e
  · injection e with e1 e2 e3
    subst e1; subst e3
    have hl' : zs.length + 1 ≤ cap := hcap
    refine ⟨b, off, zs.length + 1, cap, rfl, rfl, by omega, by omega, by simp at hl; omega, by omega, hc 0 (by simp), fun e => ⟨by omega, List.eq_nil_of_length_eq_zero (by omega)⟩, fun e => ?_⟩
    refine ⟨_, cap - 1, rfl, by omega, by unfold maxLen; omega, ?_⟩
    by_cases hz : zs = []
    · subst hz; exact reads_nil _ _ _
    · have : 0 < zs.length := List.length_pos_iff.2 hz
      refine reads_mk rfl (by unfold maxLen; simp at hl; omega) fun j hj => ?_
      have := hc (j + 1) (by simpa using hj)
      rw [show off + 1 + j = off + (j + 1) by omega]
      simpa using this
theorem ReadsN.empty {w : World} {v : Value} (h : ReadsN w v []) : ∃ (a : Option Addr) (cap : Nat), v = .slice a 0 cap := by
  obtain ⟨a, cap, rfl, _⟩ := h
  exact ⟨a, cap, rfl⟩
theorem ReadsN.cut {w : World} {a : Option Addr} {n cap : Nat} {M : List Int} (h : ReadsN w (.slice a n cap) M) (h0 : n ≠ 0) : ∃ (b off : Nat) (z : Int) (M' : List Int), a = some ⟨b, off, none⟩ ∧ Hid (M = z :: M') ∧ n ≤ cap ∧ cap ≤ 9223372036854775807 ∧ w.cell? ⟨b, off, none⟩ = some (.int .i64 z) ∧ (cap = 1 → n = 1 ∧ Hid (M' = [])) ∧ (cap ≠ 1 → Hid (ReadsN w (.slice (some ⟨b, off + 1, none⟩) (n - 1) (cap - 1)) M')) := by
  cases M with
  | nil =>
    obtain ⟨a', c', e⟩ := h.empty
    injection e with _ e _
    exact absurd e h0
  | cons z M' =>
    obtain ⟨b, off, n', cap', e, h1, h2, h3, h4, h5, h6, h7, h8⟩ := h.parts
    injection e with e1 e2 e3
    subst e1; subst e2; subst e3
    exact ⟨b, off, z, M', rfl, rfl, h3, h5, h6, h7, h8⟩
theorem ReadsN.nil {w : World} {a : Option Addr} {n cap : Nat} {M : List Int} (h : ReadsN w (.slice a n cap) M) (h0 : n = 0) : M = [] := by
  obtain ⟨a', c', e, _⟩ := h
  injection e with _ e _
  exact List.eq_nil_of_length_eq_zero (by omega)
theorem readsN_nil (w : World) (a : Option Addr) (cap : Nat) (h : cap ≤ 9223372036854775807) : ReadsN w (.slice a 0 cap) [] := ⟨a, cap, rfl, Nat.zero_le _, by unfold maxLen; omega, reads_nil _ _ _⟩
/-- what SumOf answers -/
def SumRes (w : World) (S : Int) (e : Ending) (w' : World) : Prop :=
  Kpt w w' ∧ ((amtB S = true ∧ e = .returned (.tuple #[.int .i64 S, .bool true])) ∨ (amtB S = false ∧ ∃ r : Int, e = .returned (.tuple #[.int .i64 r, .bool false])))

end Go.Proofs.Ytcpfldlcocencaa
