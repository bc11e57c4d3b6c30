/-
  PriceBack: the law answers true.
-/
import Derived.Test.YtoahdhhbjljjlaaDoorPriceN
namespace Go.Proofs.YtoahdhhbjljjlaaDoor
open Go.RowKit
set_option linter.unusedVariables false

theorem show_any (p : Int) (w : World) (ht : PowT w) : Calls Tryd.prog 9 #[.int .i64 p] w fun e w' => e = .returned (.tuple #[.string (if prcB p = true then shS p else ⟨#[]⟩), .int .i64 (if prcB p = true then 0 else 3)]) ∧ Kpt w w' := by
  cases h : prcB p with
  | true => exact show_ok p h w ht
  | false => exact (show_no p h w).mono fun e w' hh => ⟨hh.1, by rw [hh.2]; exact Kpt.refl _⟩
theorem shS_size {p : Int} (h : prcB p = true) : (shS p).size < 4294967281 := by
  obtain ⟨p0, p1⟩ := prc_t h
  have a := itS_size (n := p / 10000) (by omega) (by omega)
  unfold shS
  split
  · omega
  · have b := plS_size p
    rw [itS_five (by omega) (by omega)] at b
    rw [ByteArray.size_append, ByteArray.size_append]
    have : (⟨#[46]⟩ : ByteArray).size = 1 := rfl
    omega

set_option maxRecDepth 100000 in
set_option maxHeartbeats 2000000 in
theorem priceBack_walk (p : Int) (s : ByteArray) (w : World) (hm : MaxL w) (ht : PowT w) (hs : s.size < 4294967281) :
    Calls Tryd.prog 4 #[.int .i64 p, .string s] w fun r w' => r = .returned (.bool true) ∧ Kpt w w' := by
  have B := Lib.hid (fun w' (g : Kpt w w') => priceBegun w' (hm.kpt g) (ht.kpt g))
  have G := Lib.hid (Kpt.refl w)
  have S1 := Lib.hid (fun w' (g : Kpt w w') => show_any p w' (ht.kpt g))
  have R1 := Lib.hid (fun w' (g : Kpt w w') => read_any s hs w' (hm.kpt g))
  have R2 : prcB p = true → Hid (∀ w', Kpt w w' → Calls Tryd.prog 8 #[.string (shS p)] w' fun e w'' => e = .returned (.tuple #[.int .i64 p, .int .i64 0]) ∧ Kpt w' w'') := fun hp w' g => by
    obtain ⟨a, b⟩ := read_show hp
    have := read_ok (shS p) (shS_size hp) a (by rw [b]; exact hp) w' (hm.kpt g)
    rw [b] at this
    exact this
  have S2 : rdE s = 0 → Hid (∀ w', Kpt w w' → Calls Tryd.prog 9 #[.int .i64 (rdR s)] w' fun e w'' => e = .returned (.tuple #[.string s, .int .i64 0]) ∧ Kpt w' w'') := fun he w' g => by
    unfold rdE at he
    by_cases h1 : rdB s = true
    · rw [if_pos h1] at he
      by_cases h2 : prcB (rdV s) = true
      · have e : rdR s = rdV s := by unfold rdR; rw [if_pos ⟨h1, h2⟩]
        rw [e]
        have := show_ok (rdV s) h2 w' (ht.kpt g)
        rw [show_read h1] at this
        exact this
      · rw [if_neg h2] at he; cases he
    · rw [if_neg h1] at he; cases he
  have Z : rdE s ≠ 0 → rdR s = 0 := fun he => by
    unfold rdR
    rw [if_neg]
    rintro ⟨h1, h2⟩
    unfold rdE at he
    rw [if_pos h1, if_pos h2] at he
    exact he rfl
  generalize rdE s = E at *
  generalize rdR s = X at *
  clear hm ht
  by_cases he : E = 0
  · have S2' := S2 he
    subst he
    clear S2 Z
    cases hp : prcB p with
    | true =>
      have R2' := R2 hp
      rw [hp] at S1
      simp only [if_true] at S1
      generalize shS p = t at S1 R2'
      clear R2 hp
      go_enter Tryd.func4, Tryd.ntmps4
      go_wp2_with (first
        | (go_at_call 9; (with_reducible refine (S1.out _ G.out).mono ?_); rintro e w1 ⟨rfl, g1⟩; have G := Lib.hid (ktr G.out g1); clear g1)
        | (go_at_call 8; (with_reducible refine (R1.out _ G.out).mono ?_); rintro e w1 ⟨rfl, g1⟩; have G := Lib.hid (ktr G.out g1); clear g1)
        | (go_at_call 18; (with_reducible refine (B.out _ G.out).mono ?_); rintro e w1 ⟨rfl, g1⟩; have G := Lib.hid (ktr G.out g1); clear g1)
        | (go_at_call 8; (with_reducible refine (R2'.out _ G.out).mono ?_); rintro e w1 ⟨rfl, g1⟩; have G := Lib.hid (ktr G.out g1); clear g1)
        | (go_at_call 9; (with_reducible refine (S2'.out _ G.out).mono ?_); rintro e w1 ⟨rfl, g1⟩; have G := Lib.hid (ktr G.out g1); clear g1))
      go_ret
      exact ⟨rfl, G.out⟩
    | false =>
      rw [hp] at S1
      simp only [Bool.false_eq_true, if_false] at S1
      clear R2 hp
      go_enter Tryd.func4, Tryd.ntmps4
      go_wp2_with (first
        | (go_at_call 9; (with_reducible refine (S1.out _ G.out).mono ?_); rintro e w1 ⟨rfl, g1⟩; have G := Lib.hid (ktr G.out g1); clear g1)
        | (go_at_call 8; (with_reducible refine (R1.out _ G.out).mono ?_); rintro e w1 ⟨rfl, g1⟩; have G := Lib.hid (ktr G.out g1); clear g1)
        | (go_at_call 18; (with_reducible refine (B.out _ G.out).mono ?_); rintro e w1 ⟨rfl, g1⟩; have G := Lib.hid (ktr G.out g1); clear g1)
        | (go_at_call 9; (with_reducible refine (S2'.out _ G.out).mono ?_); rintro e w1 ⟨rfl, g1⟩; have G := Lib.hid (ktr G.out g1); clear g1))
      go_ret
      exact ⟨rfl, G.out⟩
  · have hX := Z he
    subst hX
    have q1 : (E == 0) = false := beq_eq_false_iff_ne.2 he
    have q2 : (E != 0) = true := bne_iff_ne.2 he
    clear S2 Z he
    cases hp : prcB p with
    | true =>
      have R2' := R2 hp
      rw [hp] at S1
      simp only [if_true] at S1
      generalize shS p = t at S1 R2'
      clear R2 hp
      go_enter Tryd.func4, Tryd.ntmps4
      go_wp2_with (first
        | (go_at_call 9; (with_reducible refine (S1.out _ G.out).mono ?_); rintro e w1 ⟨rfl, g1⟩; have G := Lib.hid (ktr G.out g1); clear g1)
        | (go_at_call 8; (with_reducible refine (R1.out _ G.out).mono ?_); rintro e w1 ⟨rfl, g1⟩; have G := Lib.hid (ktr G.out g1); clear g1)
        | (go_at_call 18; (with_reducible refine (B.out _ G.out).mono ?_); rintro e w1 ⟨rfl, g1⟩; have G := Lib.hid (ktr G.out g1); clear g1)
        | (go_at_call 8; (with_reducible refine (R2'.out _ G.out).mono ?_); rintro e w1 ⟨rfl, g1⟩; have G := Lib.hid (ktr G.out g1); clear g1))
      go_ret
      exact ⟨rfl, G.out⟩
    | false =>
      rw [hp] at S1
      simp only [Bool.false_eq_true, if_false] at S1
      clear R2 hp
      go_enter Tryd.func4, Tryd.ntmps4
      go_wp2_with (first
        | (go_at_call 9; (with_reducible refine (S1.out _ G.out).mono ?_); rintro e w1 ⟨rfl, g1⟩; have G := Lib.hid (ktr G.out g1); clear g1)
        | (go_at_call 8; (with_reducible refine (R1.out _ G.out).mono ?_); rintro e w1 ⟨rfl, g1⟩; have G := Lib.hid (ktr G.out g1); clear g1)
        | (go_at_call 18; (with_reducible refine (B.out _ G.out).mono ?_); rintro e w1 ⟨rfl, g1⟩; have G := Lib.hid (ktr G.out g1); clear g1))
      go_ret
      exact ⟨rfl, G.out⟩

end Go.Proofs.YtoahdhhbjljjlaaDoor
