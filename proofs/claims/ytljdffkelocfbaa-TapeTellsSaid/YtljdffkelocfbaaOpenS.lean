/-
  An argument of slices of bytes, opened.
-/
import Derived.Test.YtljdffkelocfbaaOpenU
import Derived.Deep.Slices
import Derived.SizedLaws
import Derived.Deep.Fields
import Derived.ChangeSame
namespace Go.Proofs.Ytljdffkelocfbaa
open Go.RowKit Go.ChangeShapes Go.WideShapes Go.Deep
set_option linter.unusedVariables false

/-- lists of bytes in memory, however many -/
def ReadsB (w : World) (v : Value) (L : List (List Nat)) : Prop :=
  ∃ (a : Option Addr) (cap : Nat), v = .slice a L.length cap ∧ L.length ≤ cap ∧ cap ≤ maxLen ∧ ∀ k, k < L.length → ∃ b off u, a = some ⟨b, off, none⟩ ∧ w.cell? ⟨b, off + k, none⟩ = some u ∧ ReadsU w u (L.getD k [])
theorem ReadsB.form {w : World} {v : Value} {L : List (List Nat)} (h : ReadsB w v L) : ∃ a cap, v = .slice a L.length cap ∧ L.length ≤ cap ∧ cap ≤ maxLen := by
  obtain ⟨a, cap, rfl, h1, h2, hc⟩ := h
  exact ⟨a, cap, rfl, h1, h2⟩
theorem ReadsB.at_ {w : World} {a : Option Addr} {n cap : Nat} {L : List (List Nat)} (h : ReadsB w (.slice a n cap) L) {k : Nat} (hk : k < L.length) : ∃ b off u, a = some ⟨b, off, none⟩ ∧ w.cell? ⟨b, off + k, none⟩ = some u ∧ ReadsU w u (L.getD k []) := by
  obtain ⟨a', cap', e, -, -, hc⟩ := h
  injection e with e1 e2 e3
  rw [e1]; exact hc k hk
theorem wts_all {H : Type} {P : Program} {e : TypeId} {l : List (DataW H)} {d : DataW H} (hd : d ∈ l) : ∀ m ∈ d.weights P e, m ∈ DataW.weightsAll P e l := by
  induction l with
  | nil => cases hd
  | cons x l ih =>
    intro m hm
    simp only [DataW.weightsAll, List.mem_append]
    rcases List.mem_cons.1 hd with rfl | hd
    · exact .inl hm
    · exact .inr (ih hd m hm)
section
variable {H : Type} {enc : TypeId × Value → H} {w : World} {base : Nat} {held : Bool}
theorem open_u8s {n : Nat} {V : Value} {d : DataW H} {pl : List MemPlace} (h : DataW.trod enc Try.checked.prog w base (fun _ => true) held n 22 [V] = some (d, pl)) (hw : ∀ m ∈ d.weights Try.checked.prog 22, m ≤ reachBytes) : ∃ zs, ReadsU w V zs := by
  rcases open_ints Try.underlying22 Try.underlying5 (by kernel_rfl) h with ⟨hcs, _⟩ | ⟨x, l, c, zs, hcs, _, hl, hm, hz, hx, hcell, hwz⟩
  · obtain rfl : V = .slice none 0 0 := by simpa using hcs
    exact ⟨[], readsU_nil w⟩
  · obtain rfl : V = .slice (some x) l c := by simpa using hcs
    simp only [Prod.mk.injEq] at hx
    obtain ⟨rfl, rfl⟩ := hx
    have hz' : zs.length = c := by simpa using hz
    refine ⟨_, readsU_of_row (.inr ⟨x, rfl, hl, hm, hz', hcell, hwz⟩) ?_⟩
    have hb := hw _ (by rw [DataW.weights, show Try.checked.prog.underlying 22 = _ from Try.underlying22]; exact List.mem_cons_self ..)
    rw [show Try.checked.prog.bytesOf 5 = 1 by kernel_rfl] at hb
    simp only [lits, List.length_map, List.length_take, List.length_drop, reachBytes] at hb
    omega
theorem open_u8ss {n : Nat} {a : Option Addr} {l c : Nat} {d : DataW H} {pl : List MemPlace} (h : DataW.trod enc Try.checked.prog w base (fun _ => true) held n 28 (Value.slice a l c).cells.toList = some (d, pl)) (hw : ∀ m ∈ d.weights Try.checked.prog 28, m ≤ reachBytes) : ∃ L, ReadsB w (.slice a l c) L := by
  rcases Deep.open_slice1 Try.underlying28 (by kernel_rfl) h with ⟨hcs, _⟩ | ⟨x, len, cap, m, n', V, D, Pl, hcs, -, hl, hm, hmm, hx, hi⟩
  · simp [Value.cells] at hcs
    obtain ⟨rfl, rfl, rfl⟩ := hcs
    exact ⟨[], none, 0, rfl, Nat.le_refl _, Nat.zero_le _, fun k hk => absurd hk (by simp)⟩
  · simp [Value.cells] at hcs
    obtain ⟨rfl, rfl, rfl⟩ := hcs
    simp only [if_true] at hmm
    subst hmm
    simp only [Prod.mk.injEq] at hx
    obtain ⟨rfl, rfl⟩ := hx
    have hq : ∀ i, i < l → ∃ zs, ReadsU w (V i) zs := fun i hil => by
      refine open_u8s (hi i (by omega)).2 fun k hk => hw k ?_
      rw [DataW.weights, show Try.checked.prog.underlying 28 = _ from Try.underlying28]
      refine List.mem_cons_of_mem _ (List.mem_append.2 (.inl (wts_all (List.mem_map.2 ⟨i, List.mem_range.2 hil, rfl⟩) k hk)))
    obtain ⟨f, hf⟩ := Deep.choose_lt hq
    have hlen : ((List.range l).map f).length = l := by simp
    refine ⟨(List.range l).map f, some x, m, by rw [hlen], by rw [hlen]; exact hl, hm, fun j hj => ?_⟩
    rw [hlen] at hj
    have h1 := (hi j (by omega)).1
    obtain ⟨b, off, spot⟩ := x
    obtain rfl : spot = none := by
      have h2 := World.cell?_spot (hi 0 (by omega)).1
      simpa [Addr.add] using h2
    have eg : ((List.range l).map f).getD j [] = f j := by
      rw [List.getD_eq_getElem?_getD, List.getElem?_map, List.getElem?_range hj]; rfl
    rw [Go.WideShapes.add_plain] at h1
    refine ⟨b, off, V j, rfl, h1, ?_⟩
    rw [eg]
    exact hf j hj
end

end Go.Proofs.Ytljdffkelocfbaa
