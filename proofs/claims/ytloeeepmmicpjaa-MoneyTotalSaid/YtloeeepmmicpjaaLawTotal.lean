/-
  The law MoneyTotal answers true at whatever list: in whatever order all together are as much; with what takes it away, nothing.
-/
import Derived.Test.YtloeeepmmicpjaaParts
import Derived.Test.YtloeeepmmicpjaaOwn
namespace Go.Proofs.Ytloeeepmmicpjaa
open Go.RowKit
set_option linter.unusedVariables false
namespace moneyTotal

set_option maxRecDepth 100000 in
set_option maxHeartbeats 1000000 in
theorem walk_err (a : Option Addr) (n cap : Nat) (E : Int) (hn : n ≤ maxLen) (w : World) (r1 : ∀ w1, Grew w w1 → Calls Try.prog 12 #[.slice a n cap] w1 fun e w' => e = .returned (.tuple #[.int .i64 0, .int .i64 E]) ∧ Grew w1 w') (hE : 1 ≤ E) :
    Calls Try.prog 3 #[.slice a n cap] w fun r w' => r = .returned (.bool true) ∧ Grew w w' := by
  unfold maxLen at hn
  have R1 := Lib.hid (r1 w (Grew.refl _))
  clear r1
  go_enter Try.func3, Try.ntmps3
  go_wp2_with (first
    | (go_at_call 12; (with_reducible refine R1.out.mono ?_); rintro e w1 ⟨rfl, h1⟩)
    | (go_at_call 13; (with_reducible refine (moneyBegun_run _).mono ?_); rintro e w3 ⟨rfl, h3⟩))
  go_ret
  exact ⟨rfl, gtr h1 h3⟩

theorem rev_step {zs : List Int} {m : Nat} (hm : m < zs.length) : (zs.drop (m + 1)).reverse ++ [zs.getD m 0] = (zs.drop m).reverse := by
  rw [List.drop_eq_getElem_cons hm, List.reverse_cons, List.getD_eq_getElem?_getD, List.getElem?_eq_getElem hm]
  rfl

set_option maxRecDepth 100000 in
set_option maxHeartbeats 2000000 in
theorem walk_ok (b off cap : Nat) (zs : List Int) (hn : zs.length ≤ 40) (w : World) (hr : Reads w (.slice (some ⟨b, off, none⟩) zs.length cap) zs) (hE : allE zs = 0) (hS : amtB zs.sum = true) :
    Calls Try.prog 3 #[.slice (some ⟨b, off, none⟩) zs.length cap] w fun r w' => r = .returned (.bool true) ∧ Below w.heap.size w w' := by
  have s1 := amt_t hS
  have R1 := Lib.hid (total_ok _ _ cap zs hn w hr hE hS)
  have HR := Lib.hid hr
  have HE := Lib.hid hE
  have HS := Lib.hid hS
  clear hr hE hS
  obtain ⟨S, hS⟩ : ∃ S, S = zs.sum := ⟨_, rfl⟩
  rw [← hS] at R1 s1
  have ES := Lib.hid hS
  clear hS
  go_enter Try.func3, Try.ntmps3
  go_wp2_with (first
    | (go_at_call 12; (with_reducible refine R1.out.mono ?_); rintro e w1 ⟨rfl, h1⟩)
    | (go_at_call 13; (with_reducible refine (moneyBegun_run _).mono ?_); rintro e w3 ⟨rfl, h3⟩))
  have g3 := gtr h1 h3
  clear h1 h3 R1
  have HC : Hid (∀ j, j < zs.length → w3.cell? ⟨b, off + j, none⟩ = some (.int .i64 (zs.getD j 0))) := fun j hj => by
    obtain ⟨a', cap', e, _, hc⟩ := (HR.out.grew g3)
    injection e with e1 e2 e3
    subst e1
    obtain ⟨b', off', e', h'⟩ := hc j hj
    injection e' with e'
    injection e' with e1 e2 e3
    subst e1 e2
    exact h'
  go_loopw [5, 6] (fun v i wr => ∃ k : Nat, k ≤ zs.length ∧ i = .int .i64 ((k : Int) - 1) ∧ Hid (Owns wr w3.heap.size v (zs.drop k).reverse) ∧ Hid (Below w3.heap.size w3 wr)) (fun _ i _ => (intOf i + 1).toNat)
  case atStart => exact ⟨zs.length, Nat.le_refl _, rfl, by rw [List.drop_length]; exact Owns.nil _ _, Below.refl _ _⟩
  case round =>
    obtain ⟨k, hk, rfl, HO, HB⟩ := hrel
    by_cases h0 : 0 < k
    · obtain ⟨m, rfl⟩ : ∃ m, k = m + 1 := ⟨k - 1, by omega⟩
      have em : ((m + 1 : Nat) : Int) - 1 = (m : Int) := by omega
      have hcell := (HB.out.cell (p := ⟨b, off + m, none⟩) (cell_in (HC.out m (by omega)))).trans (HC.out m (by omega))
      have hst := rev_step (zs := zs) (m := m) (by omega)
      generalize zs.getD m 0 = z at hcell hst
      have HT := Lib.hid hst
      clear hst
      have hl : (zs.drop (m + 1)).reverse.length + 1 ≤ 1000000 := by rw [List.length_reverse, List.length_drop]; omega
      have HL := Lib.hid hl
      clear hl
      go_wp2_with (at_builtin; refine wp_append1 rfl (.tmp 29) (.tmp 34) rfl w3.heap.size _ _ z wr rfl HO.out rfl HL.out HB.out.size ?_; intro v' w' ho' hb'; have HO' := Lib.hid ho'; have HB' := Lib.hid hb'; clear ho' hb')
      go_roundw
      case rel => exact ⟨m, by omega, rfl, by unfold Hid; rw [← HT.out]; exact HO'.out, HB.out.trans HB'.out⟩
      case measure => simp [intOf]
    · obtain rfl : k = 0 := by omega
      rw [List.drop_zero] at HO
      have e0 : ((0 : Nat) : Int) - 1 = -1 := rfl
      obtain ⟨a, cap2, hv, hrd⟩ := HO.out.reads
      rw [List.length_reverse] at hv
      subst hv
      have hsum : zs.reverse.sum = S := by rw [ES.out]; exact List.sum_reverse zs
      have hall : ∀ z ∈ zs, amtB z = true := by
        rcases allE_cases zs with ⟨_, q⟩ | ⟨q, _⟩
        · exact q
        · have := HE.out; omega
      have hSb : amtB S = true := amt_mk s1.1 s1.2
      have r2 := total_ok a zs.length cap2 zs.reverse hn wr hrd (allE_ok fun z hz => hall z (List.mem_reverse.1 hz)) (by rw [hsum]; exact hSb)
      rw [hsum] at r2
      have R2 := Lib.hid r2
      have r3 : zs.length < 40 → ∀ (a3 : Option Addr) (cap3 : Nat) (w5 : World), Reads w5 (.slice a3 (zs.length + 1) cap3) (zs.reverse ++ [-S]) → Calls Try.prog 12 #[.slice a3 (zs.length + 1) cap3] w5 fun e w' => e = .returned (.tuple #[.int .i64 0, .int .i64 0]) ∧ Grew w5 w' := by
        intro h40 a3 cap3 w5 h5
        have e5 : (zs.reverse ++ [-S]).sum = 0 := by
          rw [List.sum_append, hsum, List.sum_singleton]; omega
        have := total_ok a3 (zs.length + 1) cap3 (zs.reverse ++ [-S]) (by omega) w5 h5 (allE_ok fun z hz => by
          rcases List.mem_append.1 hz with q | q
          · exact hall z (List.mem_reverse.1 q)
          · rw [List.mem_singleton.1 q]; exact amt_mk (by omega) (by omega)) (by rw [e5]; decide)
        rw [e5] at this
        exact this
      have R3 := Lib.hid r3
      have HL : Hid (zs.reverse.length + 1 ≤ 1000000) := (by rw [List.length_reverse]; omega : zs.reverse.length + 1 ≤ 1000000)
      clear r2 r3 hrd hall hSb hsum
      by_cases h40 : zs.length < 40
      · go_wp2_with (first
          | (go_at_call 12; (with_reducible refine R2.out.mono ?_); rintro e w4 ⟨rfl, h4⟩)
          | (at_builtin; refine wp_append1 rfl (.tmp 49) (.tmp 52) rfl w3.heap.size _ _ (-S) w4 rfl (HO.out.grew h4) rfl HL.out (Nat.le_trans HB.out.size h4.below.size) ?_; intro v' w' ho' hb'; obtain ⟨a3, cap3, hv3, h5⟩ := ho'.reads; rw [List.length_append, List.length_reverse, List.length_singleton] at hv3; subst hv3; have H5 := Lib.hid h5; have HB' := Lib.hid hb'; clear h5 hb' ho')
          | (go_at_call 12; (with_reducible refine (R3.out h40 _ _ _ H5.out).mono ?_); rintro e w6 ⟨rfl, h6⟩))
        go_ret
        exact ⟨rfl, (g3.below.trans (HB.out.mono g3.below.size)).trans (((h4.below.mono (Nat.le_trans g3.below.size HB.out.size)).trans (HB'.out.mono g3.below.size)).trans (h6.below.mono (Nat.le_trans (Nat.le_trans g3.below.size HB.out.size) (Nat.le_trans h4.below.size HB'.out.size))))⟩
      · go_wp2_with (first
          | (go_at_call 12; (with_reducible refine R2.out.mono ?_); rintro e w4 ⟨rfl, h4⟩)
          | (at_builtin; refine wp_append1 rfl (.tmp 49) (.tmp 52) rfl w3.heap.size _ _ (-S) w4 rfl (HO.out.grew h4) rfl HL.out (Nat.le_trans HB.out.size h4.below.size) ?_; intro v' w' ho' hb'; obtain ⟨a3, cap3, hv3, h5⟩ := ho'.reads; rw [List.length_append, List.length_reverse, List.length_singleton] at hv3; subst hv3; have H5 := Lib.hid h5; have HB' := Lib.hid hb'; clear h5 hb' ho')
          | (go_at_call 12; (with_reducible refine (total_many _ _ _ (by omega) (by unfold maxLen; omega) _).mono ?_); rintro e w6 ⟨rfl, rfl⟩))
        go_ret
        exact ⟨rfl, (g3.below.trans (HB.out.mono g3.below.size)).trans ((h4.below.mono (Nat.le_trans g3.below.size HB.out.size)).trans (HB'.out.mono g3.below.size))⟩

set_option maxRecDepth 100000 in
set_option maxHeartbeats 2000000 in
theorem walk_empty (a : Option Addr) (cap : Nat) (w : World) :
    Calls Try.prog 3 #[.slice a 0 cap] w fun r w' => r = .returned (.bool true) ∧ Below w.heap.size w w' := by
  have R1 : ∀ (a : Option Addr) (cap : Nat) (w1 : World), Calls Try.prog 12 #[.slice a 0 cap] w1 fun e w' => e = .returned (.tuple #[.int .i64 0, .int .i64 0]) ∧ Grew w1 w' := fun a cap w1 => total_ok a 0 cap [] (by omega) w1 (reads_nil w1 a cap) rfl (by decide)
  have R3 : ∀ (a : Option Addr) (cap : Nat) (w1 : World), Reads w1 (.slice a 1 cap) [0] → Calls Try.prog 12 #[.slice a 1 cap] w1 fun e w' => e = .returned (.tuple #[.int .i64 0, .int .i64 0]) ∧ Grew w1 w' := fun a cap w1 h => total_ok a 1 cap [0] (by omega) w1 h (by decide) (by decide)
  go_enter Try.func3, Try.ntmps3
  go_wp2_with (first
    | (go_at_call 12; (with_reducible refine (R1 _ _ _).mono ?_); rintro e w1 ⟨rfl, h1⟩)
    | (go_at_call 13; (with_reducible refine (moneyBegun_run _).mono ?_); rintro e w3 ⟨rfl, h3⟩))
  go_loop [5, 6] (fun v i => v = .slice none 0 0 ∧ i = .int .i64 (-1)) (fun _ _ => 0)
  case atStart => exact ⟨rfl, rfl⟩
  case round =>
    obtain ⟨rfl, rfl⟩ := hrel
    go_wp2_with (first
      | (go_at_call 12; (with_reducible refine (R1 _ _ _).mono ?_); rintro e w4 ⟨rfl, h4⟩)
      | (at_builtin; refine wp_append1 rfl (.tmp 49) (.tmp 52) rfl w4.heap.size _ [] 0 w4 rfl (Owns.nil _ _) rfl (by simp) (Nat.le_refl _) ?_; intro v' w' ho' hb'; obtain ⟨a3, cap3, hv3, h5⟩ := ho'.reads; simp only [List.nil_append, List.length_singleton] at hv3 h5; subst hv3; have H5 := Lib.hid h5; have HB' := Lib.hid hb'; clear h5 hb' ho')
      | (go_at_call 12; (with_reducible refine (R3 _ _ _ H5.out).mono ?_); rintro e w6 ⟨rfl, h6⟩))
    go_ret
    have g4 := gtr (gtr h1 h3) h4
    exact ⟨rfl, (g4.below.trans (HB'.out.mono g4.below.size)).trans (h6.below.mono (Nat.le_trans g4.below.size HB'.out.size))⟩

theorem walk0 (a : Option Addr) (n cap : Nat) (zs : List Int) (w : World) (hr : Reads w (.slice a n cap) zs) :
    Calls Try.prog 3 #[.slice a n cap] w fun r w' => r = .returned (.bool true) ∧ Below w.heap.size w w' := by
  have hl := hr.slice
  have hm := hr.len
  subst hl
  by_cases h40 : 40 < zs.length
  · refine (walk_err a zs.length cap 2 hm w (fun w1 _ => ?_) (by omega)).mono fun e w' h => ⟨h.1, h.2.below⟩
    refine (total_many a zs.length cap h40 hm w1).mono ?_
    rintro e w' ⟨rfl, rfl⟩
    exact ⟨rfl, Grew.refl _⟩
  · rcases allE_cases zs with ⟨hE, _⟩ | ⟨hE, _⟩
    · cases hS : amtB zs.sum with
      | true =>
        rcases hr.cell with ⟨rfl, a', cap', e⟩ | ⟨_, b, off, cap', e, _⟩
        · exact walk_empty a cap w
        · injection e with e1 e2 e3
          subst e1
          exact walk_ok b off cap zs (by omega) w hr hE hS
      | false => exact (walk_err a zs.length cap 8 hm w (fun w1 g => total_wide a _ cap zs (by omega) w1 (hr.grew g) hE hS) (by omega)).mono fun e w' h => ⟨h.1, h.2.below⟩
    · refine (walk_err a zs.length cap 3 hm w (fun w1 g => ?_) (by omega)).mono fun e w' h => ⟨h.1, h.2.below⟩
      refine (total_no a _ cap zs (by omega) w1 (hr.grew g) hE).mono ?_
      rintro e w' ⟨rfl, rfl⟩
      exact ⟨rfl, Grew.refl _⟩

end moneyTotal
end Go.Proofs.Ytloeeepmmicpjaa
