/-
  An argument of bytes, opened.
-/
import Derived.Test.YtljdffkelocfbaaTapA
import Derived.ChangeSlices
import Derived.OpenShut
namespace Go.Proofs.Ytljdffkelocfbaa
open Go.RowKit
set_option linter.unusedVariables false

/-- what an argument's bytes say of memory -/
def IsRowU (w : World) (a : Option Addr) (len cap : Nat) (zs : List Int) : Prop :=
  (a = none ∧ len = 0 ∧ cap = 0 ∧ zs = []) ∨
  ∃ x, a = some x ∧ len ≤ cap ∧ cap ≤ maxLen ∧ zs.length = cap ∧ (∀ i, i < zs.length → w.cell? (x.add i) = some (.int .u8 (zs.getD i 0))) ∧ ∀ n ∈ zs, (Lit.int .u8 n).wf = true
theorem wf_u8 {n : Int} (h : (Lit.int .u8 n).wf = true) : 0 ≤ n ∧ n ≤ 255 := by
  have := (Lit.wf_int_iff .u8 n).1 h
  rwa [show IntKind.u8.min = 0 by decide, show IntKind.u8.max = 255 by decide] at this
theorem readsU_of_row {w : World} {a : Option Addr} {len cap : Nat} {zs : List Int} (h : IsRowU w a len cap zs) (hb : zs.length ≤ 140737488355328) : ReadsU w (.slice a len cap) ((zs.take len).map Int.toNat) := by
  rcases h with ⟨rfl, rfl, rfl, rfl⟩ | ⟨x, rfl, hl, hm, hz, hc, hw⟩
  · exact readsU_nil w
  · have hlen : ((zs.take len).map Int.toNat).length = len := by rw [List.length_map, List.length_take]; omega
    refine ⟨_, cap, by rw [hlen], by omega, ⟨hm, by omega⟩, (fun e => by cases e), fun b hb => ?_, fun j hj => ?_⟩
    · obtain ⟨n, hn, rfl⟩ := List.mem_map.1 hb
      have := wf_u8 (hw n (List.mem_of_mem_take hn)); omega
    · rw [hlen] at hj
      obtain ⟨b, off, rfl, hc'⟩ := ints_at hc (by omega)
      have hcj := hc' j (by omega)
      refine ⟨b, off, rfl, ?_⟩
      have e : ((zs.take len).map Int.toNat).getD j 0 = (zs.getD j 0).toNat := by
        rw [List.getD_eq_getElem?_getD, List.getElem?_map, List.getElem?_take_of_lt hj, List.getD_eq_getElem?_getD, List.getElem?_eq_getElem (by omega)]; rfl
      have hmem : zs.getD j 0 ∈ zs := by rw [List.getD_eq_getElem?_getD, List.getElem?_eq_getElem (by omega)]; simp
      have h0 := wf_u8 (hw _ hmem)
      rw [e, Int.toNat_of_nonneg h0.1]
      exact hcj

end Go.Proofs.Ytljdffkelocfbaa
