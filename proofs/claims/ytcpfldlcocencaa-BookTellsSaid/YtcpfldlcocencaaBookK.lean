/-
  slices.Clone and slices.Reverse at postings.
-/
import Derived.Test.YtcpfldlcocencaaBookJ
import Derived.Shelf.SlicesE.Clone
import Derived.Shelf.SlicesQ.Reverse
namespace Go.Proofs.Ytcpfldlcocencaa
open Go.RowKit Go.Sort Go.Lib
set_option linter.unusedVariables false

theorem clone_run (v : Value) (ps : List (Int × Int × Int)) (w : World) (h : ReadsP w v ps) (h0 : 0 < ps.length) (hm : ps.length ≤ 100000) :
    Calls Try.prog 32 #[v] w fun e w' => ∃ blk cap, e = .returned (.slice (some ⟨blk, 0, none⟩) ps.length cap) ∧ OwnsP w' w.heap.size (.slice (some ⟨blk, 0, none⟩) ps.length cap) ps ∧ Kpt w w' := by
  obtain ⟨i0, hi, hz0, hz1, hz2⟩ := info_parts Try.infoPost
  rcases h.cell with ⟨rfl, _⟩ | ⟨_, b, off, cap, rfl, hc⟩
  · simp at h0
  · have zE : ∀ w, (Go.sizeOf 35).run Try.prog w = .ok 3 w := fun w => by kernel_rfl
    refine (AnyE.slices_Clone Try.cloP i0 _ 3 24 hi hz0 hz1 hz2 rfl (by decide) zE b off ps.length cap (flatP ps) w (flatP_len ps) h.len (by omega) ?_ (flatP_one ps)).mono ?_
    · intro j u hu
      have hj : j < ps.length * 3 := by
        have := (List.getElem?_eq_some_iff.1 hu).1
        rwa [flatP_len] at this
      obtain ⟨q, r, hr, rfl⟩ : ∃ q r, r < 3 ∧ j = q * 3 + r := ⟨j / 3, j % 3, by omega, by omega⟩
      have hq : q < ps.length := by omega
      obtain ⟨h1, h2, h3⟩ := hc q hq
      obtain ⟨e0, e1, e2⟩ := flatP_at ps q hq
      rw [← Nat.add_assoc]
      rcases (show r = 0 ∨ r = 1 ∨ r = 2 by omega) with rfl | rfl | rfl
      · rw [Nat.add_zero] at hu ⊢; rw [e0] at hu; rw [← hu]; exact h1
      · rw [e1] at hu; rw [← hu]; exact h2
      · rw [e2] at hu; rw [← hu]; exact h3
    · rintro e w' ⟨v', rfl, ho, _, hb⟩
      obtain ⟨blk, cap', rfl, _⟩ := own_some (ps := ps) ho h0
      exact ⟨blk, cap', rfl, ho, hb⟩

theorem reverse_run (w : World) (base blk cap : Nat) (ps : List (Int × Int × Int)) (h : OwnsP w base (.slice (some ⟨blk, 0, none⟩) ps.length cap) ps) (hm : ps.length ≤ 100000) :
    Calls Try.prog 33 #[.slice (some ⟨blk, 0, none⟩) ps.length cap] w fun e w' =>
      e = .returned (.tuple #[]) ∧ OwnsP w' base (.slice (some ⟨blk, 0, none⟩) ps.length cap) ps.reverse ∧ w.grownBy w' (some blk) := by
  rcases h.2 with ⟨e, _⟩ | ⟨k, cap', cur, e, hk, hh, hc, hmx, hs, ht⟩
  · cases e
  · injection e with e1 e2 e3
    injection e1 with e1
    injection e1 with e1 _ _
    subst e1; subst e3
    have aE : ∀ w, (isAgg 35).run Try.prog w = .ok true w := fun w => by kernel_rfl
    have zE : ∀ w, (Go.sizeOf 35).run Try.prog w = .ok 3 w := fun w => by kernel_rfl
    refine (AnyQ.slices_Reverse Try.revP 3 aE zE encP (fun _ => rfl) (fun x v hv => by simp [encP] at hv; rcases hv with rfl | rfl | rfl <;> rfl) blk 0 cap ps.toArray w (holds_own hh ht) (by simp; omega)).mono ?_
    rintro e w' ⟨rfl, n, rfl⟩
    have er : ps.toArray.reverse = ps.reverse.toArray := by simp
    have hp := heap_put (n := n) (os := #[]) (flatP ps.reverse).toArray hh
    have hg := grown_put (w := w) (g := blk) (n := n) (os := #[]) (flatP ps.reverse).toArray
    rw [grow_empty] at hp hg
    have ew : putRowK encP 3 (Sort.ahead w n) blk 0 ps.toArray.reverse = putRow id (Sort.ahead w n) blk 0 (flatP ps.reverse).toArray := by
      rw [er]; unfold putRowK; rw [flatK_eq]
    rw [ew]
    refine ⟨rfl, ⟨by rw [flatP_len, List.length_reverse], .inr ⟨blk, cap, _, ?_, hk, hp, ?_, hmx, by simp [putCells, hs], ?_⟩⟩, hg⟩
    · rw [List.length_reverse]
    · rw [List.length_reverse]; exact hc
    · have := take_put cur (flatP ps.reverse) (by rw [flatP_len, hs, List.length_reverse]; omega)
      rw [flatP_len] at this
      exact this

end Go.Proofs.Ytcpfldlcocencaa
