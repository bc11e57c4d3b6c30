/-
  Words for the walks: a world that has only grown; a slice that reads as a list.
-/
import Derived.Test.YtgccipmeiceonaaRows
import Derived.WalkKit
import Derived.ProofKit
import Derived.OpenShut
import Derived.Handy
import Derived.Lib.Hide
namespace Go.Proofs.Ytgccipmeiceonaa
open Go.RowKit
set_option linter.unusedVariables false

/-- new blocks have been laid; of what was there nothing has turned -/
structure Grew (w w' : World) : Prop where
  grown : Grown w w'
  below : Below w.heap.size w w'
theorem Grew.refl (w : World) : Grew w w := ⟨Grown.refl _, Below.refl _ _⟩
theorem Grew.alloc {w w' : World} (h : Grew w w') (c : Array Value) (t : TypeId) : Grew w (w'.alloc (.cells c t)) := ⟨h.grown.alloc c t, h.below.alloc h.below.size _⟩
theorem Grew.drew {w w' : World} (h : Grew w w') : Grew w w'.drew := ⟨h.grown.drew, h.below.drew⟩
theorem Grew.setCell {w w' : World} (h : Grew w w') {a : Addr} (ha : w.heap.size ≤ a.block) (v : Value) : Grew w (w'.setCell a v) := ⟨h.grown.setCell ha v, h.below.setCell ha v⟩
theorem gtr {a b c : World} (h : Grew a b) (k : Grew b c) : Grew a c :=
  ⟨⟨World.keptBut_trans h.grown.1 k.grown.1, fun x => (k.grown.2.1 x).trans (h.grown.2.1 x), Nat.le_trans h.grown.2.2 k.grown.2.2⟩, h.below.trans (k.below.mono h.below.size)⟩
theorem Grew.cell {w w' : World} (h : Grew w w') {p : Addr} {v : Value} (hp : p.block < w.heap.size) (hc : w.cell? p = some v) : w'.cell? p = some v := (h.below.cell hp).trans hc

theorem ret_int {k : IntKind} {a b : Int} (h : a = b) : Ending.returned (.int k a) = .returned (.int k b) := by rw [h]
theorem ret_tup2 {k l : IntKind} {a b c d : Int} (h : a = b) (g : c = d) : Ending.returned (.tuple #[.int k a, .int l c]) = .returned (.tuple #[.int k b, .int l d]) := by rw [h, g]

/-- 'the slice value v reads, in the world w, as the list zs' -/
def Reads (w : World) (v : Value) (zs : List Int) : Prop :=
  ∃ (a : Option Addr) (cap : Nat), v = .slice a zs.length cap ∧ zs.length ≤ maxLen ∧ (∀ j, j < zs.length → ∃ b off, a = some ⟨b, off, none⟩ ∧ w.cell? ⟨b, off + j, none⟩ = some (.int .i64 (zs.getD j 0)))

theorem Reads.cell {w : World} {v : Value} {zs : List Int} (h : Reads w v zs) : (zs = [] ∧ ∃ a cap, v = .slice a 0 cap) ∨ (0 < zs.length ∧ ∃ b off cap, v = .slice (some ⟨b, off, none⟩) zs.length cap ∧ ∀ j, j < zs.length → w.cell? ⟨b, off + j, none⟩ = some (.int .i64 (zs.getD j 0))) := by
  obtain ⟨a, cap, rfl, hm, hc⟩ := h
  by_cases h0 : zs = []
  · subst h0; exact .inl ⟨rfl, a, cap, rfl⟩
  · have hp : 0 < zs.length := by cases zs <;> simp at h0 ⊢
    obtain ⟨b, off, rfl, -⟩ := hc 0 hp
    refine .inr ⟨hp, b, off, cap, rfl, fun j hj => ?_⟩
    obtain ⟨b', off', e, h'⟩ := hc j hj
    simp only [Option.some.injEq, Addr.mk.injEq] at e
    obtain ⟨rfl, rfl, -⟩ := e
    exact h'
theorem Reads.len {w : World} {v : Value} {zs : List Int} (h : Reads w v zs) : zs.length ≤ maxLen := by
  obtain ⟨a, cap, rfl, hm, hc⟩ := h; exact hm
theorem Reads.slice {w : World} {a : Option Addr} {n cap : Nat} {zs : List Int} (h : Reads w (.slice a n cap) zs) : zs.length = n := by
  obtain ⟨a', cap', e, -⟩ := h
  simp only [Value.slice.injEq] at e
  exact e.2.1.symm
theorem reads_nil (w : World) (a : Option Addr) (cap : Nat) : Reads w (.slice a 0 cap) [] := ⟨a, cap, rfl, Nat.zero_le _, fun j hj => absurd hj (Nat.not_lt_zero j)⟩
theorem reads_mk {w : World} {b off n cap : Nat} {zs : List Int} (hn : zs.length = n) (hm : n ≤ maxLen) (h : ∀ j, j < zs.length → w.cell? ⟨b, off + j, none⟩ = some (.int .i64 (zs.getD j 0))) : Reads w (.slice (some ⟨b, off, none⟩) n cap) zs :=
  ⟨_, cap, by rw [hn], by rw [hn]; exact hm, fun j hj => ⟨b, off, rfl, h j hj⟩⟩
/-- a slice reads as it did in a world that has only grown -/
theorem cell_in {w : World} {p : Addr} {v : Value} (h : w.cell? p = some v) : p.block < w.heap.size := by
  rcases Nat.lt_or_ge p.block w.heap.size with g | g
  · exact g
  · exfalso
    have : w.heap[p.block]? = none := by simp [g]
    simp [World.cell?, this] at h
theorem Reads.grew {w w' : World} {v : Value} {zs : List Int} (h : Reads w v zs) (g : Grew w w') : Reads w' v zs := by
  obtain ⟨a, cap, rfl, hm, hc⟩ := h
  refine ⟨a, cap, rfl, hm, fun j hj => ?_⟩
  obtain ⟨b, off, rfl, h'⟩ := hc j hj
  exact ⟨b, off, rfl, g.cell (cell_in h') h'⟩

/-- what an argument's row says, in these words -/
theorem reads_of_row {w : World} {a : Option Addr} {len cap : Nat} {zs : List Int}
    (h : (a = none ∧ len = 0 ∧ cap = 0 ∧ zs = []) ∨ ∃ x, a = some x ∧ len ≤ cap ∧ cap ≤ maxLen ∧ zs.length = cap ∧ (∀ i, i < zs.length → w.cell? (x.add i) = some (.int .i64 (zs.getD i 0))) ∧ ∀ n ∈ zs, (Lit.int .i64 n).wf = true) :
    Reads w (.slice a len cap) (zs.take len) ∧ ∀ n ∈ zs.take len, (Lit.int .i64 n).wf = true := by
  rcases h with ⟨rfl, rfl, rfl, rfl⟩ | ⟨x, rfl, hl, hm, hz, hc, hw⟩
  · exact ⟨reads_nil w none 0, by simp⟩
  · refine ⟨?_, fun n hn => hw n (List.mem_of_mem_take hn)⟩
    have hlen : (zs.take len).length = len := by rw [List.length_take]; omega
    by_cases h0 : len = 0
    · subst h0; exact reads_nil w _ _
    · obtain ⟨b, off, rfl, hc'⟩ := ints_at hc (by omega)
      refine reads_mk hlen (Nat.le_trans hl hm) fun j hj => ?_
      rw [hlen] at hj
      have e : (zs.take len).getD j 0 = zs.getD j 0 := by
        rw [List.getD_eq_getElem?_getD, List.getD_eq_getElem?_getD, List.getElem?_take_of_lt hj]
      rw [e]
      exact hc' j (by omega)

end Go.Proofs.Ytgccipmeiceonaa
