/-
  Merged: PostMath, CycM.
-/
import Derived.Test.YtgccipmeiceonaaMp29
import Derived.Test.YtgccipmeiceonaaMp27
-- PostMath
namespace Go.Proofs.Ytgccipmeiceonaa

/-- the line of place k, if anything stands there -/
def lineAt (T : List (Int × Int × Int)) (k : Nat) : Option (Int × Int × Int) :=
  if sumAt T ((k / 21 : Nat) : Int) ((k % 21 : Nat) : Int) = 0 then none else some (((k / 21 : Nat) : Int), ((k % 21 : Nat) : Int), sumAt T ((k / 21 : Nat) : Int) ((k % 21 : Nat) : Int))
/-- the book that these postings make -/
def mrgL (T : List (Int × Int × Int)) : List (Int × Int × Int) := (List.range' 0 2121).filterMap (lineAt T)
theorem lineAt_some {T : List (Int × Int × Int)} {k : Nat} {p : Int × Int × Int} (h : lineAt T k = some p) : p.1 = ((k / 21 : Nat) : Int) ∧ p.2.1 = ((k % 21 : Nat) : Int) ∧ p.2.2 = sumAt T p.1 p.2.1 ∧ p.2.2 ≠ 0 := by
  unfold lineAt at h
  split at h
  · cases h
  · next hz =>
    obtain rfl := Option.some.inj h
    exact ⟨rfl, rfl, rfl, hz⟩
theorem lineAt_pt {T : List (Int × Int × Int)} (ha : ∀ a u, amtB (sumAt T a u) = true) {k : Nat} (hk : k < 2121) {p : Int × Int × Int} (h : lineAt T k = some p) : ptB p = true ∧ plc p = (k : Int) := by
  obtain ⟨h1, h2, h3, h4⟩ := lineAt_some h
  have := amt_t (ha p.1 p.2.1)
  rw [← h3] at this
  refine ⟨pt_mk (by omega), ?_⟩
  unfold plc; omega
theorem mrg_strict {T : List (Int × Int × Int)} (ha : ∀ a u, amtB (sumAt T a u) = true) : ∀ (n s : Nat) (b : Int), b < (s : Int) → s + n ≤ 2121 → Strict b ((List.range' s n).filterMap (lineAt T))
  | 0, s, b, _, _ => by simp [Strict]
  | n + 1, s, b, hb, hs => by
    rw [List.range'_succ, List.filterMap_cons]
    cases hl : lineAt T s with
    | none => exact mrg_strict ha n (s + 1) b (by omega) (by omega)
    | some p =>
      obtain ⟨h1, h2⟩ := lineAt_pt ha (by omega) hl
      exact ⟨h1, by omega, mrg_strict ha n (s + 1) (plc p) (by omega) (by omega)⟩
theorem mrg_book {T : List (Int × Int × Int)} (ha : ∀ a u, amtB (sumAt T a u) = true) : IsBook (mrgL T) T := by
  refine ⟨mrg_strict ha 2121 0 (-1) (by decide) (by decide), fun p => ?_⟩
  unfold mrgL
  rw [List.mem_filterMap]
  constructor
  · rintro ⟨k, hk, e⟩
    have hk' : k < 2121 := by have := List.mem_range'.1 hk; omega
    exact ⟨(lineAt_pt ha hk' e).1, (lineAt_some e).2.2.1⟩
  · rintro ⟨h1, h2⟩
    have h := pt_t h1
    obtain ⟨a, u, n⟩ := p
    simp only at h h2
    refine ⟨(a * 21 + u).toNat, List.mem_range'.2 ⟨(a * 21 + u).toNat, by omega, by omega⟩, ?_⟩
    have e1 : (((a * 21 + u).toNat / 21 : Nat) : Int) = a := by omega
    have e2 : (((a * 21 + u).toNat % 21 : Nat) : Int) = u := by omega
    unfold lineAt
    rw [e1, e2, ← h2, if_neg (by omega)]
/-- are all sums amounts? -/
def allA (T : List (Int × Int × Int)) : Bool := (List.range' 0 2121).all fun k => amtB (sumAt T ((k / 21 : Nat) : Int) ((k % 21 : Nat) : Int))
theorem allA_t {T : List (Int × Int × Int)} (hp : ∀ p ∈ T, ptB p = true) (h : allA T = true) (a u : Int) : amtB (sumAt T a u) = true := by
  by_cases hq : ∃ p ∈ T, p.1 = a ∧ p.2.1 = u
  · obtain ⟨p, hm, rfl, rfl⟩ := hq
    have hb := pt_t (hp p hm)
    have := List.all_eq_true.1 h (p.1 * 21 + p.2.1).toNat (List.mem_range'.2 ⟨(p.1 * 21 + p.2.1).toNat, by omega, by omega⟩)
    have e1 : (((p.1 * 21 + p.2.1).toNat / 21 : Nat) : Int) = p.1 := by omega
    have e2 : (((p.1 * 21 + p.2.1).toNat % 21 : Nat) : Int) = p.2.1 := by omega
    rw [e1, e2] at this
    exact this
  · rw [sumAt_none fun p hm e => hq ⟨p, hm, e⟩]; decide
theorem allA_f {T : List (Int × Int × Int)} (h : ∀ a u, amtB (sumAt T a u) = true) : allA T = true := List.all_eq_true.2 fun _ _ => h _ _
/-- the error of Post, and what it answers -/
def pstE (b l : List (Int × Int × Int)) : Int := if linE b = 0 then (if chkE l = 0 then (if allA (b ++ l) = true then (if 400 < (mrgL (b ++ l)).length then 2 else 0) else 8) else chkE l) else linE b
def pstR (b l : List (Int × Int × Int)) : List (Int × Int × Int) := if pstE b l = 0 then mrgL (b ++ l) else []
theorem both_pt {b l : List (Int × Int × Int)} (h1 : linE b = 0) (h2 : chkE l = 0) : ∀ p ∈ b ++ l, ptB p = true := by
  intro p hp
  rcases List.mem_append.1 hp with h | h
  · exact strict_pt (lin_0 h1).2.1 p h
  · exact (chk_0 h2).2.2.1 p h
theorem pst_0 {b l : List (Int × Int × Int)} (h : pstE b l = 0) : linE b = 0 ∧ chkE l = 0 ∧ (∀ a u, amtB (sumAt (b ++ l) a u) = true) ∧ (mrgL (b ++ l)).length ≤ 400 ∧ pstR b l = mrgL (b ++ l) := by
  have h' := h
  unfold pstE at h
  split at h
  · next h1 =>
    split at h
    · next h2 =>
      split at h
      · next h3 =>
        split at h
        · cases h
        · next h4 => exact ⟨h1, h2, allA_t (both_pt h1 h2) h3, by omega, if_pos h'⟩
      · cases h
    · next h2 => exact absurd h h2
  · next h1 => exact absurd h h1

end Go.Proofs.Ytgccipmeiceonaa

-- CycM
namespace Go.Proofs.Ytgccipmeiceonaa
open Go.RowKit
set_option linter.unusedVariables false

/-- the error of an extra part -/
def xtrE (X : Int) : Int := if X < 0 ∨ 10000 < X then 3 else 0
/-- the error of rules -/
def rulE (W : Int) (hs : List Int) (ts : List (List Int)) (X : Int) : Int := orE (calE W hs) (orE (clsE ts) (xtrE X))
/-- the error of a day -/
def todE (T : Int) : Int := if 0 ≤ T ∧ T ≤ 3652058 then 0 else 3
/-- the error of a world -/
def wldE (T : Int) (fs : List (List Int)) (b : List (Int × Int × Int)) : Int := orE (todE T) (orE (checksE fs) (linE b))
theorem rul_0 {W : Int} {hs : List Int} {ts : List (List Int)} {X : Int} (h : rulE W hs ts X = 0) : calE W hs = 0 ∧ clsE ts = 0 ∧ 0 ≤ X ∧ X ≤ 10000 := by
  obtain ⟨h1, h2⟩ := orE_0 h
  obtain ⟨h3, h4⟩ := orE_0 h2
  refine ⟨h1, h3, ?_⟩
  unfold xtrE at h4
  split at h4
  · cases h4
  · omega
theorem wld_0 {T : Int} {fs : List (List Int)} {b : List (Int × Int × Int)} (h : wldE T fs b = 0) : (0 ≤ T ∧ T ≤ 3652058) ∧ checksE fs = 0 ∧ linE b = 0 := by
  obtain ⟨h1, h2⟩ := orE_0 h
  obtain ⟨h3, h4⟩ := orE_0 h2
  refine ⟨?_, h3, h4⟩
  unfold todE at h1
  split at h1
  · assumption
  · cases h1

end Go.Proofs.Ytgccipmeiceonaa
