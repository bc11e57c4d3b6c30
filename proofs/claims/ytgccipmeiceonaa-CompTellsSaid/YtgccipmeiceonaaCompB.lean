/-
  What Middle of package comp answers, whatever it is handed.
-/
import Derived.Test.YtgccipmeiceonaaCompA
import Derived.Test.YtgccipmeiceonaaSlV
namespace Go.Proofs.Ytgccipmeiceonaa
open Go.RowKit
set_option linter.unusedVariables false

def midE (zs : List Int) : Int := if zs.length = 0 then 1 else if 40 < zs.length then 2 else if zs.all prcB = true then 0 else 3
def midQ (zs : List Int) : Int := if midE zs = 0 then (srt zs).getD ((zs.length - 1) / 2) 0 else 0
theorem mid_0 {zs : List Int} (h : midE zs = 0) : 0 < zs.length ∧ zs.length ≤ 40 ∧ zs.all prcB = true ∧ midQ zs = (srt zs).getD ((zs.length - 1) / 2) 0 := by
  unfold midQ
  rw [if_pos h]
  unfold midE at h
  split at h
  · cases h
  · split at h
    · cases h
    · split at h
      · rename_i a b c; exact ⟨by omega, by omega, c, rfl⟩
      · cases h
theorem mid_no {zs : List Int} (h : midE zs ≠ 0) : midQ zs = 0 ∧ (midE zs = 1 ∨ midE zs = 2 ∨ midE zs = 3) := by
  unfold midQ
  rw [if_neg h]
  refine ⟨rfl, ?_⟩
  unfold midE at h ⊢
  split
  · exact .inl rfl
  · split
    · exact .inr (.inl rfl)
    · split
      · rename_i a b c; rw [if_neg a, if_neg b, if_pos c] at h; exact absurd rfl h
      · exact .inr (.inr rfl)
theorem all_upto {zs : List Int} {k : Nat} (h : zs.all prcB = true) (hk : k < zs.length) : prcB (zs.getD k 0) = true := by
  rw [List.getD_eq_getElem?_getD, List.getElem?_eq_getElem hk]
  exact List.all_eq_true.1 h _ (List.getElem_mem hk)

theorem middle_none (a : Option Addr) (cap : Nat) (w : World) : Calls Try.prog 17 #[.slice a 0 cap] w fun e w' => e = .returned (.tuple #[.int .i64 0, .int .i64 1]) ∧ Kpt w w' := by
  go_enter Try.func17, Try.ntmps17
  go_wp2
  go_ret2
  exact ⟨rfl, Kpt.refl _⟩
theorem middle_many (a : Option Addr) (n cap : Nat) (hn : 40 < n) (hb : n ≤ maxLen) (w : World) : Calls Try.prog 17 #[.slice a n cap] w fun e w' => e = .returned (.tuple #[.int .i64 0, .int .i64 2]) ∧ Kpt w w' := by
  unfold maxLen at hb
  have h1 : (40 : Int) < (n : Int) := by omega
  have q1 : ((n : Int) == 0) = false := beq_eq_false_iff_ne.2 (by omega)
  go_enter Try.func17, Try.ntmps17
  go_wp2
  go_ret2
  exact ⟨rfl, Kpt.refl _⟩

set_option maxRecDepth 100000 in
set_option maxHeartbeats 2000000 in
theorem middle_few (a : Option Addr) (cap : Nat) (zs : List Int) (w : World) (h0 : 0 < zs.length) (h40 : zs.length ≤ 40) (hr : Reads w (.slice a zs.length cap) zs) :
    Calls Try.prog 17 #[.slice a zs.length cap] w fun e w' => e = .returned (.tuple #[.int .i64 (midQ zs), .int .i64 (midE zs)]) ∧ Kpt w w' := by
  have q1 : ((zs.length : Int) == 0) = false := beq_eq_false_iff_ne.2 (by omega)
  have q2 : decide ((40 : Int) < (zs.length : Int)) = false := decide_eq_false (by omega)
  have HR := Lib.hid hr.sl
  have HRD := Lib.hid hr
  have HN : Hid (∀ k, k < zs.length → prcB (zs.getD k 0) = false → midE zs = 3) := fun k hk hb => by
    unfold midE
    rw [if_neg (by omega), if_neg (by omega), if_neg]
    intro h
    rw [all_upto h hk] at hb; cases hb
  have HY : Hid ((∀ j, j < zs.length → prcB (zs.getD j 0) = true) → midE zs = 0) := fun h => by
    unfold midE
    rw [if_neg (by omega), if_neg (by omega), if_pos]
    refine List.all_eq_true.2 fun z hz => ?_
    obtain ⟨j, hj, rfl⟩ := List.getElem_of_mem hz
    have := h j hj
    rwa [List.getD_eq_getElem?_getD, List.getElem?_eq_getElem hj] at this
  have HM0 : Hid (midE zs = 3 → midQ zs = 0) := fun h => by unfold midQ; rw [h]; rfl
  have HM1 : Hid (midE zs = 0 → midQ zs = (srt zs).getD ((zs.length - 1) / 2) 0) := fun h => by unfold midQ; rw [if_pos h]
  have HSL := Lib.hid (srt_len zs)
  clear hr
  go_enter Try.func17, Try.ntmps17
  go_wp2
  go_loop [16] (fun i => ∃ k : Nat, k ≤ zs.length ∧ i = .int .i64 k ∧ Hid (∀ j, j < k → prcB (zs.getD j 0) = true)) (fun i => zs.length - (intOf i).toNat)
  case atStart => exact ⟨0, Nat.zero_le _, rfl, fun j hj => absurd hj (Nat.not_lt_zero j)⟩
  case round =>
    obtain ⟨k, hk, rfl, HA⟩ := hrel
    by_cases hlt : k < zs.length
    · obtain ⟨b, off, rfl, c1⟩ := HR.out k hlt
      have HN2 := Lib.hid (HN.out k hlt)
      have HA2 : Hid (prcB (zs.getD k 0) = true → ∀ j, j < k + 1 → prcB (zs.getD j 0) = true) := fun h j hj => by
        rcases Nat.lt_or_ge j k with g | g
        · exact HA.out j g
        · obtain rfl : j = k := by omega
          exact h
      have hk0 : (0 : Int) ≤ (k : Int) := by omega
      have hk1 : (k : Int) < (zs.length : Int) := by omega
      generalize zs.getD k 0 = z at *
      cases hp : prcB z with
      | true =>
        have P1 := Lib.hid (fun w => pcheck_ok z hp w)
        have HA3 := Lib.hid (HA2.out hp)
        clear hp
        go_wp2_with (go_at_call 73; (with_reducible refine (P1.out _).mono ?_); rintro e w1 ⟨rfl, rfl⟩)
        go_round
        case rel => exact ⟨k + 1, by omega, by go_num, HA3.out⟩
        case measure => simp [intOf]; omega
      | false =>
        have P1 := Lib.hid (fun w => pcheck_no z hp w)
        have E1 := Lib.hid (HN2.out hp)
        have E2 := Lib.hid (HM0.out E1.out)
        clear hp
        go_wp2_with (go_at_call 73; (with_reducible refine (P1.out _).mono ?_); rintro e w1 ⟨rfl, rfl⟩)
        go_ret2
        exact ⟨by rw [E1.out, E2.out]; rfl, Kpt.refl _⟩
    · obtain rfl : k = zs.length := by omega
      have E1 := Lib.hid (HY.out HA.out)
      have E2 := Lib.hid (HM1.out E1.out)
      have kA : Kpt w (w.alloc (.cells #[.slice a zs.length cap] 22)) := (Kpt.refl w).alloc _
      have SO := Lib.hid (sorted_run a cap zs w.heap.size (w.alloc (.cells #[.slice a zs.length cap] 22)) h0 (by omega) (by simp [go_sem]) (HRD.out.kpt kA))
      have KA := Lib.hid kA
      obtain ⟨m, hm⟩ : ∃ m : Nat, m = (zs.length - 1) / 2 := ⟨_, rfl⟩
      have hml : m < zs.length := by omega
      have m0 : (0 : Int) ≤ (m : Int) := by omega
      have m1 : (m : Int) < (zs.length : Int) := by omega
      have HM : Hid (midQ zs = (srt zs).getD m 0) := by unfold Hid; rw [E2.out, hm]
      have hmid : ((zs.length : Int) - 1) / 2 = (m : Int) := by omega
      clear kA hm E2
      go_wp2_with (first
        | (go_at_call 76; (with_reducible refine (values_run _ _ _ _).mono ?_); rintro e w1 ⟨rfl, rfl⟩)
        | (go_at_call 75; (with_reducible refine SO.out.mono ?_); rintro e w2 ⟨g, c, rfl, r2, k2⟩; have K2 := Lib.hid (ktr KA.out k2); have c2 : World.cell? w2 ⟨g, m, none⟩ = some (.int .i64 ((srt zs).getD m 0)) := (by obtain ⟨b', off', e', h'⟩ := r2.sl m (by rw [HSL.out]; exact hml); injection e' with e'; injection e' with e1 e2 _; subst e1 e2; simpa using h'); clear k2 r2))
      go_ret2
      exact ⟨by rw [E1.out, HM.out]; rfl, K2.out⟩
theorem middle_any (v : Value) (zs : List Int) (w : World) (hr : Reads w v zs) : Calls Try.prog 17 #[v] w fun e w' => e = .returned (.tuple #[.int .i64 (midQ zs), .int .i64 (midE zs)]) ∧ Kpt w w' := by
  obtain ⟨a, cap, rfl, hm, hc⟩ := id hr
  by_cases h0 : zs.length = 0
  · have e : midE zs = 1 := if_pos h0
    rw [show midQ zs = 0 by unfold midQ; rw [e]; rfl, e, h0]
    exact middle_none a cap w
  · by_cases h40 : 40 < zs.length
    · have e : midE zs = 2 := by unfold midE; rw [if_neg h0, if_pos h40]
      rw [show midQ zs = 0 by unfold midQ; rw [e]; rfl, e]
      exact middle_many a _ cap h40 hm w
    · exact middle_few a cap zs w (by omega) (by omega) hr

end Go.Proofs.Ytgccipmeiceonaa
