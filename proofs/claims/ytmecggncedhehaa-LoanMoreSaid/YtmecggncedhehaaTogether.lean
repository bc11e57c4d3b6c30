/-
  What Together of the reference does: sums that never come to too much.
-/
import Derived.Test.YtmecggncedhehaaKept
import Derived.Test.YtmecggncedhehaaBlk
namespace Go.Proofs.Ytmecggncedhehaa
open Go.RowKit
set_option linter.unusedVariables false

theorem tk_sum {zs : List Int} {k : Nat} (h : k < zs.length) : (zs.take (k + 1)).sum = (zs.take k).sum + zs.getD k 0 := by
  rw [List.take_add_one, List.sum_append, List.getD_eq_getElem?_getD, List.getElem?_eq_getElem h]
  simp
theorem nonneg_sum {zs : List Int} (h : ∀ z ∈ zs, 0 ≤ z) : 0 ≤ zs.sum := by
  induction zs with
  | nil => simp
  | cons a l ih =>
    have := ih fun z hz => h z (by simp [hz])
    have := h a (by simp)
    rw [List.sum_cons]; omega
theorem nonneg_take {zs : List Int} (h : ∀ z ∈ zs, 0 ≤ z) (k : Nat) : 0 ≤ (zs.take k).sum ∧ (zs.take k).sum ≤ zs.sum := by
  have h1 := nonneg_sum (zs := zs.take k) fun z hz => h z (List.mem_of_mem_take hz)
  have h2 := nonneg_sum (zs := zs.drop k) fun z hz => h z (List.mem_of_mem_drop hz)
  have h3 : (zs.take k).sum + (zs.drop k).sum = zs.sum := by rw [← List.sum_append, List.take_append_drop]
  omega

set_option maxHeartbeats 400000 in
theorem together_kpt (v : Value) (zs : List Int) (w : World) (hr : Reads w v zs) (h0 : 0 < zs.length) (hn : ∀ z ∈ zs, 0 ≤ z) (hs : zs.sum ≤ 4611686018427387904) :
    Calls Try.prog 38 #[v] w fun e w' => e = .returned (.int .i64 zs.sum) ∧ Kpt w w' := by
  have hm := hr.len
  rcases hr.cell with ⟨rfl, hz⟩ | ⟨_, b, off, cap, rfl, hc⟩
  · simp at h0
  have HB := Lib.hid (fun k => nonneg_take hn k)
  have HS := Lib.hid hs
  unfold maxLen at hm
  have HC := Lib.hid hc
  clear hc hr hn hs
  go_enter Try.func38, Try.ntmps38
  go_wp2
  go_loop [3, 4] (fun s i => ∃ k : Nat, k ≤ zs.length ∧ i = .int .i64 k ∧ s = .int .i64 (zs.take k).sum) (fun _ i => zs.length - (intOf i).toNat)
  case atStart => exact ⟨0, Nat.zero_le _, rfl, rfl⟩
  case round =>
    obtain ⟨k, hk, rfl, rfl⟩ := hrel
    by_cases hlt : k < zs.length
    · have c1 := HC.out k hlt
      have b1 := HB.out k
      have b2 := HB.out (k + 1)
      have b3 := HS.out
      have ts := tk_sum hlt
      rw [ts] at b2
      generalize zs.getD k 0 = z at c1 b2 ts
      have TS := Lib.hid ts
      clear ts
      generalize zs.sum = U at b1 b2 b3
      generalize (zs.take k).sum = L at b1 b2 TS ⊢
      go_wp2
      go_round
      case rel => exact ⟨k + 1, by omega, by go_num, by rw [TS.out]⟩
      case measure => simp [intOf]; omega
    · have e : zs.take k = zs := List.take_of_length_le (by omega)
      rw [e]
      clear e
      go_wp2
      go_ret
      exact ⟨rfl, Kpt.refl _⟩

end Go.Proofs.Ytmecggncedhehaa
