/-
  Merged: GridA.
-/
import Derived.Test.YtgccipmeiceonaaMp6
import Derived.Test.YtgccipmeiceonaaMp8
import Derived.Test.YtgccipmeiceonaaMp39
import Derived.Test.YtgccipmeiceonaaMp9
import Derived.Test.YtgccipmeiceonaaMp14
-- GridA
namespace Go.Proofs.Ytgccipmeiceonaa
open Go.RowKit
set_option linter.unusedVariables false

theorem party_t (n : Int) (w : World) (h0 : 0 ≤ n) (h1 : n ≤ 30) : Calls Try.prog 148 #[.int .i64 n] w fun e w' => e = .returned (.bool true) ∧ w = w' := by
  go_enter Try.func148, Try.ntmps148
  go_wp2
  go_ret
  exact ⟨rfl, rfl⟩
theorem party_f (n : Int) (w : World) (h : ¬ (0 ≤ n ∧ n ≤ 30)) : Calls Try.prog 148 #[.int .i64 n] w fun e w' => e = .returned (.bool false) ∧ w = w' := by
  by_cases h0 : 0 ≤ n
  · have h1 : decide (n ≤ 30) = false := decide_eq_false (by omega)
    clear h
    go_enter Try.func148, Try.ntmps148
    go_wp2
    go_ret
    exact ⟨rfl, rfl⟩
  · have h1 : decide (0 ≤ n) = false := decide_eq_false h0
    clear h
    go_enter Try.func148, Try.ntmps148
    go_wp2
    go_ret
    exact ⟨rfl, rfl⟩

theorem netCheck_many (a : Option Addr) (n cap : Nat) (hn : 60 < n) (hb : n ≤ maxLen) (w : World) : Calls Try.prog 136 #[.slice a n cap] w fun e w' => e = .returned (.int .i64 2) ∧ Grew w w' := by
  unfold maxLen at hb
  have h1 : (60 : Int) < (n : Int) := by omega
  go_enter Try.func136, Try.ntmps136
  go_wp2
  go_ret
  exact ⟨rfl, Grew.refl _⟩
theorem due_drop {l : List (Int × Int × Int)} {k : Nat} (hk : k < l.length) : l.drop k = l.getD k default :: l.drop (k + 1) := by
  rw [List.drop_eq_getElem_cons hk, List.getD_eq_getElem?_getD, List.getElem?_eq_getElem hk]; rfl
theorem due_ok {p : Int × Int × Int} {l : List (Int × Int × Int)} (h : dueB p = true) (h2 : ¬ p.1 = p.2.1) : dueE (p :: l) = dueE l := by rw [dueE, if_pos h, if_neg h2]
theorem due_self {p : Int × Int × Int} {l : List (Int × Int × Int)} (h : dueB p = true) (h2 : p.1 = p.2.1) : dueE (p :: l) = 1 := by rw [dueE, if_pos h, if_pos h2]
theorem due_no {p : Int × Int × Int} {l : List (Int × Int × Int)} (h : dueB p = false) : dueE (p :: l) = 3 := by rw [dueE, h]; rfl

set_option maxHeartbeats 4000000 in
theorem netCheck_few (a : Option Addr) (cap : Nat) (ps : List (Int × Int × Int)) (w : World) (hm : ps.length ≤ 60) (hc : ∀ j, j < ps.length → ∃ b off, a = some ⟨b, off, none⟩ ∧ PtAt w b (off + j * 3) (ps.getD j default)) :
    Calls Try.prog 136 #[.slice a ps.length cap] w fun e w' => e = .returned (.int .i64 (dueE ps)) ∧ Grew w w' := by
  have HC := Lib.hid hc; clear hc
  go_enter Try.func136, Try.ntmps136
  go_wp2
  go_loopw [10] (fun i wr => ∃ k : Nat, k ≤ ps.length ∧ i = .int .i64 k ∧ Hid (dueE ps = dueE (ps.drop k)) ∧ Hid (Grew w wr)) (fun i _ => ps.length - (intOf i).toNat)
  case atStart => exact ⟨0, Nat.zero_le _, rfl, rfl, Grew.refl _⟩
  case round =>
    obtain ⟨k, hk, rfl, HE, HG⟩ := hrel
    by_cases hlt : k < ps.length
    · obtain ⟨x, off, rfl, hp⟩ := HC.out k hlt
      obtain ⟨c0, c1, c2⟩ := hp.grew HG.out
      have hd := due_drop hlt
      generalize ps.getD k default = p at c0 c1 c2 hd
      have HD : Hid (dueE ps = dueE (p :: ps.drop (k + 1))) := by unfold Hid; rw [HE.out, hd]
      clear hd hp
      obtain ⟨F, T, A⟩ := p
      simp only at c0 c1 c2
      cases hB : dueB (F, T, A) with
      | true =>
        have hb := due_t hB
        simp only at hb
        obtain ⟨f0, f1, t0, t1, a0, a1⟩ := hb
        by_cases hs : F = T
        · have HX : Hid (dueE ps = 1) := by unfold Hid; rw [HD.out, due_self hB hs]
          have q : (F == T) = true := beq_iff_eq.2 hs
          clear hB hs
          go_wp2_with (first
            | (go_at_call 148; (with_reducible refine (party_t _ _ f0 f1).mono ?_); rintro e w' ⟨rfl, rfl⟩)
            | (go_at_call 148; (with_reducible refine (party_t _ _ t0 t1).mono ?_); rintro e w' ⟨rfl, rfl⟩))
          go_ret
          exact ⟨ret_int HX.out.symm, HG.out.alloc _ _⟩
        · have HX : Hid (dueE ps = dueE (ps.drop (k + 1))) := by unfold Hid; rw [HD.out, due_ok hB hs]
          have q : (F == T) = false := beq_eq_false_iff_ne.2 hs
          clear hB hs
          go_wp2_with (first
            | (go_at_call 148; (with_reducible refine (party_t _ _ f0 f1).mono ?_); rintro e w' ⟨rfl, rfl⟩)
            | (go_at_call 148; (with_reducible refine (party_t _ _ t0 t1).mono ?_); rintro e w' ⟨rfl, rfl⟩))
          go_roundw
          case rel => exact ⟨k + 1, by omega, by go_num, HX.out, HG.out.alloc _ _⟩
          case measure => simp [intOf]; omega
      | false =>
        have hb := due_f hB
        simp only at hb
        have HX : Hid (dueE ps = 3) := by unfold Hid; rw [HD.out, due_no hB]
        clear hB
        by_cases hf : 0 ≤ F ∧ F ≤ 30
        · obtain ⟨f0, f1⟩ := hf
          by_cases ht : 0 ≤ T ∧ T ≤ 30
          · obtain ⟨t0, t1⟩ := ht
            by_cases ha : A < 1
            · clear hb
              go_wp2_with (first
                | (go_at_call 148; (with_reducible refine (party_t _ _ f0 f1).mono ?_); rintro e w' ⟨rfl, rfl⟩)
                | (go_at_call 148; (with_reducible refine (party_t _ _ t0 t1).mono ?_); rintro e w' ⟨rfl, rfl⟩))
              go_ret
              exact ⟨ret_int HX.out.symm, HG.out.alloc _ _⟩
            · have ha' : decide (A < 1) = false := decide_eq_false ha
              have hz : 1152921504606846976 < A := by omega
              clear hb
              go_wp2_with (first
                | (go_at_call 148; (with_reducible refine (party_t _ _ f0 f1).mono ?_); rintro e w' ⟨rfl, rfl⟩)
                | (go_at_call 148; (with_reducible refine (party_t _ _ t0 t1).mono ?_); rintro e w' ⟨rfl, rfl⟩))
              go_ret
              exact ⟨ret_int HX.out.symm, HG.out.alloc _ _⟩
          · have HT := Lib.hid (fun w => party_f T w ht)
            clear hb ht
            go_wp2_with (first
              | (go_at_call 148; (with_reducible refine (party_t _ _ f0 f1).mono ?_); rintro e w' ⟨rfl, rfl⟩)
              | (go_at_call 148; (with_reducible refine (HT.out _).mono ?_); rintro e w' ⟨rfl, rfl⟩))
            go_ret
            exact ⟨ret_int HX.out.symm, HG.out.alloc _ _⟩
        · have HF := Lib.hid (fun w => party_f F w hf)
          clear hb hf
          go_wp2_with (go_at_call 148; (with_reducible refine (HF.out _).mono ?_); rintro e w' ⟨rfl, rfl⟩)
          go_ret
          exact ⟨ret_int HX.out.symm, HG.out.alloc _ _⟩
    · have HX : Hid (dueE ps = 0) := by unfold Hid; rw [HE.out, List.drop_eq_nil_of_le (by omega)]; rfl
      go_wp2
      go_ret
      exact ⟨ret_int HX.out.symm, HG.out⟩
theorem netCheck_any (v : Value) (ps : List (Int × Int × Int)) (w : World) (hr : ReadsP w v ps) : Calls Try.prog 136 #[v] w fun e w' => e = .returned (.int .i64 (netE ps)) ∧ Grew w w' := by
  obtain ⟨a, cap, rfl, -, hm, -, hc⟩ := hr
  by_cases h : 60 < ps.length
  · have e : netE ps = 2 := by unfold netE; rw [if_pos h]
    rw [e]
    exact netCheck_many a _ cap h hm w
  · have e : netE ps = dueE ps := by unfold netE; rw [if_neg h]
    rw [e]
    exact netCheck_few a cap ps w (by omega) hc

/-- the first that has less than nought -/
def negI (zs : List Int) : Int := if zs.findIdx (fun z => decide (z < 0)) < zs.length then (zs.findIdx (fun z => decide (z < 0)) : Nat) else -1
theorem negI_at {zs : List Int} {k : Nat} (hk : k < zs.length) (h1 : ∀ j, j < k → ¬ zs.getD j 0 < 0) (h2 : zs.getD k 0 < 0) : negI zs = (k : Int) := by
  have e : zs.findIdx (fun z => decide (z < 0)) = k := by
    rw [List.findIdx_eq hk]
    refine ⟨?_, fun j hj => ?_⟩
    · rw [List.getD_eq_getElem?_getD, List.getElem?_eq_getElem hk] at h2
      simpa using h2
    · have := h1 j hj
      rw [List.getD_eq_getElem?_getD, List.getElem?_eq_getElem (by omega)] at this
      simpa using this
  unfold negI
  rw [e, if_pos hk]
theorem negI_no {zs : List Int} (h1 : ∀ j, j < zs.length → ¬ zs.getD j 0 < 0) : negI zs = -1 := by
  unfold negI
  rw [if_neg]
  intro h
  have h2 := List.findIdx_getElem (w := h)
  have := h1 _ h
  rw [List.getD_eq_getElem?_getD, List.getElem?_eq_getElem h] at this
  simp at this h2
  omega

end Go.Proofs.Ytgccipmeiceonaa
