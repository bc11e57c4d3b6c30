/-
  Ages: plain facts of days that are stepped to, and of stages.
-/
import Derived.Test.YtbidafbllnhmnaaAgeF
namespace Go.Proofs.Ytbidafbllnhmnaa
open Go.RowKit
set_option linter.unusedVariables false

def stgR (W : Int) (hs : List Int) (te tb td tr i f t c p d u x b y q : Int) : Int := if lkE W hs te tb td tr i f t c p d u x b y q = 0 then stgV (openV i f t c p d u x b y) d (dayAt W hs d te tb td 1) (dayAt W hs d te tb td 2) (dayAt W hs d te tb td 3) q else 0
theorem stage_any (W te tb td tr i f t c p d u x b y q : Int) (v : Value) (hs : List Int) (w : World) (hr : Reads w v hs) (hf : Fits hs) :
    Calls Try.prog 23 #[calV W v, .agg #[.int .i64 te, .int .i64 tb, .int .i64 td, .int .i64 tr], .agg #[.int .i64 i, .int .i64 f, .int .i64 t, .int .i64 c, .int .i64 p, .int .i64 d, .int .i64 u, .int .i64 x, .int .i64 b, .int .i64 y], .int .i64 q] w fun z w' => z = .returned (.tuple #[.int .i64 (stgR W hs te tb td tr i f t c p d u x b y q), .int .i64 (lkE W hs te tb td tr i f t c p d u x b y q)]) ∧ Kpt w w' := by
  unfold stgR
  by_cases h : lkE W hs te tb td tr i f t c p d u x b y q = 0
  · rw [if_pos h, h]; exact stg_ok W te tb td tr i f t c p d u x b y q v hs w hr hf h
  · rw [if_neg h]; exact stg_bad W te tb td tr i f t c p d u x b y q v hs w hr hf _ rfl h
/-- of a later day no step leads to an earlier one -/
theorem ste_mono {W : Int} {hs : List Int} {n n' m : Int} (hm : 0 ≤ m) (hn : n ≤ n') (h1 : steE W hs n m = 0) (h2 : steE W hs n' m = 0) : steR W hs n m ≤ steR W hs n' m := by
  rcases ste_cases W hs n m with ⟨_, _, _, _, _, _, _, _, c1⟩ | ⟨e, _⟩
  · rcases ste_cases W hs n' m with ⟨_, _, _, _, _, _, _, _, c2⟩ | ⟨e, _⟩
    · rcases c1 with ⟨_, e1⟩ | ⟨p1, l1, b1, k1⟩ | ⟨p1, _⟩
      · rcases c2 with ⟨_, e2⟩ | ⟨p2, l2, _⟩ | ⟨p2, _⟩
        · omega
        · omega
        · omega
      · rcases c2 with ⟨p2, e2⟩ | ⟨p2, l2, b2, k2⟩ | ⟨p2, _⟩
        · omega
        · rcases Int.lt_or_le (steR W hs n' m) (steR W hs n m) with g | g
          · exfalso
            have a1 := cnt_add (bizB W hs) (show n ≤ n' from hn) (show n' ≤ steR W hs n m by omega)
            have a2 := cnt_add (bizB W hs) (show n' ≤ steR W hs n' m by omega) (show steR W hs n' m ≤ steR W hs n m by omega)
            have a3 := cnt_pos (β := bizB W hs) (a := steR W hs n' m) (b := steR W hs n m) g (Int.le_refl _) b1
            omega
          · exact g
        · omega
      · omega
    · exact absurd h2 e
  · exact absurd h1 e
/-- no step leads back -/
theorem ste_ge {W : Int} {hs : List Int} {n m : Int} (hm : 0 ≤ m) (h1 : steE W hs n m = 0) : n ≤ steR W hs n m := by
  rcases ste_cases W hs n m with ⟨_, _, _, _, _, _, _, _, c1⟩ | ⟨e, _⟩
  · rcases c1 with ⟨_, e1⟩ | ⟨p1, l1, b1, k1⟩ | ⟨p1, _⟩ <;> omega
  · exact absurd h1 e
theorem three_nn {e b d : Int} (he : 0 ≤ e) (hb : 0 ≤ b) (hd : 0 ≤ d) {k : Nat} (hk : k < 3) : 0 ≤ three e b d k := by
  rcases (show k = 0 ∨ k = 1 ∨ k = 2 by omega) with rfl | rfl | rfl
  · exact he
  · exact hb
  · exact hd
theorem day_mono {W : Int} {hs : List Int} {n n' e b d : Int} (he : 0 ≤ e) (hb : 0 ≤ b) (hd : 0 ≤ d) (hn : n ≤ n') (h1 : wlkE W hs n e b d = 0) (h2 : wlkE W hs n' e b d = 0) (k : Nat) (hk : k ≤ 3) : dayAt W hs n e b d k ≤ dayAt W hs n' e b d k := by
  induction k with
  | zero => exact hn
  | succ k ih => exact ste_mono (three_nn he hb hd (by omega)) (ih (by omega)) (wlk_0 h1 k (by omega)) (wlk_0 h2 k (by omega))
theorem day_up {W : Int} {hs : List Int} {n e b d : Int} (he : 0 ≤ e) (hb : 0 ≤ b) (hd : 0 ≤ d) (h1 : wlkE W hs n e b d = 0) : n ≤ dayAt W hs n e b d 1 ∧ dayAt W hs n e b d 1 ≤ dayAt W hs n e b d 2 ∧ dayAt W hs n e b d 2 ≤ dayAt W hs n e b d 3 :=
  ⟨ste_ge he (wlk_0 h1 0 (by omega)), ste_ge hb (wlk_0 h1 1 (by omega)), ste_ge hd (wlk_0 h1 2 (by omega))⟩
theorem ct_0 {W : Int} {hs : List Int} {e b d r : Int} (h : ctE W hs e b d r = 0) : calE W hs = 0 ∧ (0 ≤ e ∧ e ≤ 100) ∧ (0 ≤ b ∧ b ≤ 100) ∧ (0 ≤ d ∧ d ≤ 100) ∧ 0 ≤ r ∧ r ≤ 1000000 := by
  unfold ctE at h
  split at h
  · next h1 => exact ⟨h1, term_0 h⟩
  · next h1 => exact absurd h h1
theorem stg_done (d g1 g2 g3 q : Int) : stgV 0 d g1 g2 g3 q = 5 := by unfold stgV; rw [if_pos rfl]
theorem stg_lt {o d g1 g2 g3 q : Int} (h : o ≠ 0) : 0 ≤ stgV o d g1 g2 g3 q ∧ stgV o d g1 g2 g3 q ≤ 4 := by
  unfold stgV; rw [if_neg h]
  repeat' split
  all_goals omega
theorem stg_same {o o' d g1 g2 g3 q : Int} (h : o ≠ 0) (h' : o' ≠ 0) : stgV o d g1 g2 g3 q = stgV o' d g1 g2 g3 q := by
  unfold stgV; rw [if_neg h, if_neg h']
theorem stg_mono {o d g1 g2 g3 q q' : Int} (h : o ≠ 0) (hq : q ≤ q') : stgV o d g1 g2 g3 q ≤ stgV o d g1 g2 g3 q' := by
  unfold stgV; rw [if_neg h, if_neg h]
  repeat' split
  all_goals omega
theorem stg_four {o d g1 g2 g3 q : Int} (h : o ≠ 0) (h1 : d ≤ g1) (h2 : g1 ≤ g2) (h3 : g2 ≤ g3) : stgV o d g1 g2 g3 q = 4 ↔ g3 < q := by
  unfold stgV; rw [if_neg h]
  constructor
  · intro e
    repeat' split at e
    all_goals omega
  · intro e
    rw [if_neg (by omega), if_neg (by omega), if_neg (by omega), if_neg (by omega)]

end Go.Proofs.Ytbidafbllnhmnaa
