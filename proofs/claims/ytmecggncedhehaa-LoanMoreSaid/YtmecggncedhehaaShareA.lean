/-
  What Check, divisorOf and nextSeat of package share do: contracts.
-/
import Derived.Test.YtmecggncedhehaaBase
import Derived.Test.YtmecggncedhehaaShelf
import Derived.Test.YtmecggncedhehaaShareMath
import Derived.Deep.QuietTactic
import Derived.BigQuiet
import Derived.IntWalk
namespace Go.Proofs.Ytmecggncedhehaa
open Go.RowKit
set_option linter.unusedVariables false

theorem all_bad {zs : List Int} {k : Nat} (hk : k < zs.length) (hb : wtB (zs.getD k 0) = false) : zs.all wtB = false := by
  refine List.all_eq_false.2 ⟨zs.getD k 0, ?_, by rw [hb]; decide⟩
  rw [List.getD_eq_getElem?_getD, List.getElem?_eq_getElem hk]; simp
theorem all_good {zs : List Int} (h : ∀ j, j < zs.length → wtB (zs.getD j 0) = true) : zs.all wtB = true := by
  refine List.all_eq_true.2 fun a ha => ?_
  obtain ⟨j, hj, rfl⟩ := List.getElem_of_mem ha
  have := h j hj
  rwa [List.getD_eq_getElem?_getD, List.getElem?_eq_getElem hj] at this

theorem shareCheck_none (a : Option Addr) (cap : Nat) (w : World) : Calls Try.prog 113 #[.slice a 0 cap] w fun e w' => e = .returned (.int .i64 1) ∧ w = w' := by
  go_enter Try.func113, Try.ntmps113
  go_wp2
  go_ret
  exact ⟨rfl, rfl⟩
theorem shareCheck_many (a : Option Addr) (n cap : Nat) (hn : 40 < n) (hb : n ≤ maxLen) (w : World) : Calls Try.prog 113 #[.slice a n cap] w fun e w' => e = .returned (.int .i64 2) ∧ w = w' := by
  unfold maxLen at hb
  have h0 : ((n : Int) == 0) = false := beq_eq_false_iff_ne.2 (by omega)
  go_enter Try.func113, Try.ntmps113
  go_wp2
  go_ret
  exact ⟨rfl, rfl⟩

set_option maxHeartbeats 400000 in
theorem shareCheck_some (b off cap : Nat) (zs : List Int) (w : World) (h0 : 0 < zs.length) (hm : zs.length ≤ 40) (hc : ∀ j, j < zs.length → w.cell? ⟨b, off + j, none⟩ = some (.int .i64 (zs.getD j 0))) :
    Calls Try.prog 113 #[.slice (some ⟨b, off, none⟩) zs.length cap] w fun e w' => e = .returned (.int .i64 (wtsE zs)) ∧ w = w' := by
  have hne : zs ≠ [] := List.length_pos_iff.1 h0
  have HNE := Lib.hid hne; clear hne
  have M := Lib.hid (Try.slices_Max_int b off zs.length cap zs w h0 (Nat.le_refl _) (by omega) hc)
  rw [List.take_length] at M
  have HC := Lib.hid hc; clear hc
  have e0 : ((zs.length : Int) == 0) = false := beq_eq_false_iff_ne.2 (by omega)
  go_enter Try.func113, Try.ntmps113
  go_wp2
  go_loop [13] (fun i => ∃ k : Nat, k ≤ zs.length ∧ i = .int .i64 k ∧ Hid (∀ j, j < k → wtB (zs.getD j 0) = true)) (fun i => zs.length - (intOf i).toNat)
  case atStart => exact ⟨0, Nat.zero_le _, rfl, fun _ h => absurd h (Nat.not_lt_zero _)⟩
  case round =>
    obtain ⟨k, hk, rfl, HA⟩ := hrel
    by_cases hlt : k < zs.length
    · have hcell := HC.out k hlt
      generalize hz : zs.getD k 0 = z at hcell
      have HZ := Lib.hid hz; clear hz
      cases hb : wtB z with
      | true =>
        have hb' := wt_t hb
        have HB := Lib.hid hb; clear hb
        go_wp2
        go_round
        case rel => exact ⟨k + 1, by omega, by go_num, fun j hj => by
          rcases Nat.lt_succ_iff_lt_or_eq.1 hj with h | h
          · exact HA.out j h
          · rw [h, HZ.out]; exact HB.out⟩
        case measure => simp [intOf]; omega
      | false =>
        have hb' := wt_f hb
        have H3 := Lib.hid (wtsE_rng HNE.out hm (all_bad hlt (by rw [HZ.out]; exact hb)))
        clear hb
        by_cases h1 : z < 0
        · go_wp2
          go_ret
          exact ⟨ret_int H3.out.symm, rfl⟩
        · have h2 : 1099511627776 < z := by omega
          go_wp2
          go_ret
          exact ⟨ret_int H3.out.symm, rfl⟩
    · obtain rfl : k = zs.length := by omega
      have hall := all_good HA.out
      by_cases hmx : Lib.maxOf zs = 0
      · have E := Lib.hid (wtsE_zero HNE.out hm hall hmx)
        rw [hmx] at M
        clear hall hmx HA
        go_wp2_with (go_at_call 134; (with_reducible refine M.out.mono ?_); rintro e w' ⟨rfl, rfl⟩)
        go_ret
        exact ⟨ret_int E.out.symm, rfl⟩
      · have E := Lib.hid (wtsE_ok HNE.out hm hall hmx)
        have hx : (Lib.maxOf zs == 0) = false := beq_eq_false_iff_ne.2 hmx
        clear hall hmx HA
        go_wp2_with (go_at_call 134; (with_reducible refine M.out.mono ?_); rintro e w' ⟨rfl, rfl⟩)
        go_ret
        exact ⟨ret_int E.out.symm, rfl⟩

theorem shareCheck_any (v : Value) (zs : List Int) (w : World) (h : Reads w v zs) :
    Calls Try.prog 113 #[v] w fun e w' => e = .returned (.int .i64 (wtsE zs)) ∧ w = w' := by
  have hm := h.len
  rcases h.cell with ⟨rfl, a, cap, rfl⟩ | ⟨h0, b, off, cap, rfl, hc⟩
  · exact shareCheck_none a cap w
  · by_cases h40 : 40 < zs.length
    · rw [wtsE_many h40]; exact shareCheck_many _ _ _ h40 hm w
    · exact shareCheck_some b off cap zs w h0 (by omega) hc

end Go.Proofs.Ytmecggncedhehaa
