/-
  What the calls of package cal answer, whatever they are handed.
-/
import Derived.Test.YtmoanndonfmihaaCalJ
namespace Go.Proofs.Ytmoanndonfmihaa
open Go.RowKit
set_option linter.unusedVariables false

theorem days_mk1 {W : Int} {hs : List Int} {n : Int} (h : calE W hs = 0) (h0 : 0 ≤ n) (h1 : n ≤ 3652058) : daysE W hs [n] = 0 := by
  unfold daysE dysE
  rw [if_pos h, if_pos]
  simp [dayB, h0, h1]
theorem days_mk2 {W : Int} {hs : List Int} {f t : Int} (h : calE W hs = 0) (h0 : 0 ≤ f) (h1 : f ≤ 3652058) (h2 : 0 ≤ t) (h3 : t ≤ 3652058) : daysE W hs [f, t] = 0 := by
  unfold daysE dysE
  rw [if_pos h, if_pos]
  simp [dayB, h0, h1, h2, h3]
theorem daysE_same {W : Int} {hs : List Int} {a b : List Int} (h : calE W hs ≠ 0) : daysE W hs a = calE W hs := by unfold daysE; rw [if_neg h]

def isR (W : Int) (hs : List Int) (n : Int) : Bool := if daysE W hs [n] = 0 then bizB W hs n else false
def nxtR (W : Int) (hs : List Int) (n : Int) : Int := if daysE W hs [n] = 0 then upR W hs n 1 else 0
def nxtE (W : Int) (hs : List Int) (n : Int) : Int := if daysE W hs [n] = 0 then upE W hs n 1 else daysE W hs [n]
def steR (W : Int) (hs : List Int) (n many : Int) : Int := if daysE W hs [n] = 0 then stpR W hs n many else 0
def steE (W : Int) (hs : List Int) (n many : Int) : Int := if daysE W hs [n] = 0 then stpE W hs n many else daysE W hs [n]
def couR (W : Int) (hs : List Int) (f t : Int) : Int := if daysE W hs [f, t] = 0 then (if t < f then 0 else (cnt (bizB W hs) f t : Nat)) else 0
def couE (W : Int) (hs : List Int) (f t : Int) : Int := if daysE W hs [f, t] = 0 then (if t < f then 1 else 0) else daysE W hs [f, t]

theorem is_any (W n : Int) (v : Value) (hs : List Int) (w : World) (hr : Reads w v hs) (hf : Fits hs) :
    Calls Try.prog 81 #[calV W v, .int .i64 n] w fun e w' => e = .returned (.tuple #[.bool (isR W hs n), .int .i64 (daysE W hs [n])]) ∧ Kpt w w' := by
  unfold isR
  by_cases h : daysE W hs [n] = 0
  · rw [if_pos h, h]; exact (is_ok W n v hs w hr hf h).mono fun e w' h => ⟨h.1, h.2.kpt⟩
  · rw [if_neg h]; exact (is_bad W n v hs w hr hf h).mono fun e w' h => ⟨h.1, h.2.kpt⟩
theorem step_any (W n many : Int) (v : Value) (hs : List Int) (w : World) (hr : Reads w v hs) (hf : Fits hs) :
    Calls Try.prog 116 #[calV W v, .int .i64 n, .int .i64 many] w fun e w' => e = .returned (.tuple #[.int .i64 (steR W hs n many), .int .i64 (steE W hs n many)]) ∧ Kpt w w' := by
  unfold steR steE
  by_cases h : daysE W hs [n] = 0
  · rw [if_pos h, if_pos h]; exact step_ok W n many v hs w hr hf h
  · rw [if_neg h, if_neg h]; exact step_bad W n many v hs w hr hf h
theorem count_any (W f t : Int) (v : Value) (hs : List Int) (w : World) (hr : Reads w v hs) (hf : Fits hs) :
    Calls Try.prog 85 #[calV W v, .int .i64 f, .int .i64 t] w fun e w' => e = .returned (.tuple #[.int .i64 (couR W hs f t), .int .i64 (couE W hs f t)]) ∧ Kpt w w' := by
  unfold couR couE
  by_cases h : daysE W hs [f, t] = 0
  · rw [if_pos h, if_pos h]
    by_cases g : t < f
    · rw [if_pos g, if_pos g]; exact count_form W f t v hs w hr hf h g
    · rw [if_neg g, if_neg g]; exact count_ok W f t v hs w hr hf h (by omega)
  · rw [if_neg h, if_neg h]; exact count_bad W f t v hs w hr hf h

theorem cou_ok {W : Int} {hs : List Int} {f t : Int} (h : calE W hs = 0) (h0 : 0 ≤ f) (h1 : f ≤ t) (h2 : t ≤ 3652058) : couR W hs f t = (cnt (bizB W hs) f t : Nat) ∧ couE W hs f t = 0 := by
  unfold couR couE
  rw [days_mk2 h h0 (by omega) (by omega) h2, if_pos rfl, if_pos rfl, if_neg (by omega), if_neg (by omega)]
  exact ⟨rfl, rfl⟩
theorem is_ok' {W : Int} {hs : List Int} {n : Int} (h : calE W hs = 0) (h0 : 0 ≤ n) (h1 : n ≤ 3652058) : isR W hs n = bizB W hs n ∧ daysE W hs [n] = 0 := by
  unfold isR
  rw [days_mk1 h h0 h1, if_pos rfl]
  exact ⟨rfl, rfl⟩

/-- the next one: what is known of it -/
theorem nxt_cases (W : Int) (hs : List Int) (n : Int) :
    (nxtE W hs n = 0 ∧ calE W hs = 0 ∧ 0 ≤ n ∧ n ≤ nxtR W hs n ∧ nxtR W hs n ≤ 3652058 ∧ bizB W hs (nxtR W hs n) = true ∧ cnt (bizB W hs) (n - 1) (nxtR W hs n) = 1) ∨ (nxtE W hs n ≠ 0 ∧ nxtR W hs n = 0) := by
  unfold nxtR nxtE
  by_cases h : daysE W hs [n] = 0
  · rw [if_pos h, if_pos h]
    obtain ⟨hE, n0, n1⟩ := daysE_1 h
    have uc := up_cases W hs (n := n - 1) (m := 1) (by omega) (by omega) (by omega)
    rw [show n - 1 + 1 = n by omega] at uc
    rcases uc with ⟨e1, e2, e3, e4, e5⟩ | ⟨e1, e2, e3⟩
    · exact .inl ⟨e1, hE, n0, by omega, e3, e4, e5⟩
    · exact .inr ⟨by rw [e1]; decide, e2⟩
  · rw [if_neg h, if_neg h]; exact .inr ⟨h, rfl⟩
theorem nxt_at {W : Int} {hs : List Int} {n k : Int} (h : calE W hs = 0) (h0 : 0 ≤ n) (h1 : n ≤ k) (h2 : k ≤ 3652058) (hb : bizB W hs k = true) (hc : cnt (bizB W hs) (n - 1) k = 1) : nxtR W hs n = k ∧ nxtE W hs n = 0 := by
  unfold nxtR nxtE
  rw [days_mk1 h h0 (by omega), if_pos rfl, if_pos rfl]
  exact next_at h0 h1 h2 hb hc
/-- a step: what is known of it -/
theorem ste_cases (W : Int) (hs : List Int) (n many : Int) :
    (steE W hs n many = 0 ∧ calE W hs = 0 ∧ 0 ≤ n ∧ n ≤ 3652058 ∧ -500 ≤ many ∧ many ≤ 500 ∧ 0 ≤ steR W hs n many ∧ steR W hs n many ≤ 3652058 ∧
      ((many = 0 ∧ steR W hs n many = n) ∨
       (0 < many ∧ n < steR W hs n many ∧ bizB W hs (steR W hs n many) = true ∧ cnt (bizB W hs) n (steR W hs n many) = many.toNat) ∨
       (many < 0 ∧ steR W hs n many < n ∧ bizB W hs (steR W hs n many) = true ∧ cnt (bizB W hs) (steR W hs n many - 1) (n - 1) = (-many).toNat))) ∨
    (steE W hs n many ≠ 0 ∧ steR W hs n many = 0) := by
  unfold steR steE
  by_cases h : daysE W hs [n] = 0
  · rw [if_pos h, if_pos h]
    obtain ⟨hE, n0, n1⟩ := daysE_1 h
    unfold stpR stpE
    by_cases a : many < -500 ∨ 500 < many
    · rw [if_pos a, if_pos a]; exact .inr ⟨by decide, rfl⟩
    · rw [if_neg a, if_neg a]
      by_cases b : many = 0
      · rw [if_pos b, if_pos b]; exact .inl ⟨rfl, hE, n0, n1, by omega, by omega, n0, n1, .inl ⟨b, rfl⟩⟩
      · rw [if_neg b, if_neg b]
        by_cases c : 0 < many
        · rw [if_pos c, if_pos c]
          rcases up_cases W hs (n := n) (m := many.toNat) (by omega) n1 (by omega) with ⟨e1, e2, e3, e4, e5⟩ | ⟨e1, e2, e3⟩
          · exact .inl ⟨e1, hE, n0, n1, by omega, by omega, by omega, e3, .inr (.inl ⟨c, e2, e4, e5⟩)⟩
          · exact .inr ⟨by rw [e1]; decide, e2⟩
        · rw [if_neg c, if_neg c]
          rcases dn_cases W hs (n := n - 1) (m := (-many).toNat) (by omega) (by omega) (by omega) with ⟨e1, e2, e3, e4, e5⟩ | ⟨e1, e2, e3⟩
          · exact .inl ⟨e1, hE, n0, n1, by omega, by omega, e2, by omega, .inr (.inr ⟨by omega, by omega, e4, e5⟩)⟩
          · exact .inr ⟨by rw [e1]; decide, e2⟩
  · rw [if_neg h, if_neg h]; exact .inr ⟨h, rfl⟩
theorem ste_up {W : Int} {hs : List Int} {n k many : Int} (h : calE W hs = 0) (h0 : 0 ≤ n) (h1 : n < k) (h2 : k ≤ 3652058) (m0 : 0 < many) (m1 : many ≤ 500) (hb : bizB W hs k = true) (hc : cnt (bizB W hs) n k = many.toNat) : steR W hs n many = k ∧ steE W hs n many = 0 := by
  unfold steR steE stpR stpE
  rw [days_mk1 h h0 (by omega)]
  simp only [if_true, if_neg (show ¬ (many < -500 ∨ 500 < many) by omega), if_neg (show ¬ many = 0 by omega), if_pos m0]
  exact up_at (by omega) h1 h2 (by omega) hb hc
theorem ste_dn {W : Int} {hs : List Int} {n k many : Int} (h : calE W hs = 0) (h0 : 0 ≤ k) (h1 : k < n) (h2 : n ≤ 3652058) (m0 : many < 0) (m1 : -500 ≤ many) (hb : bizB W hs k = true) (hc : cnt (bizB W hs) (k - 1) (n - 1) = (-many).toNat) : steR W hs n many = k ∧ steE W hs n many = 0 := by
  unfold steR steE stpR stpE
  rw [days_mk1 h (by omega) h2]
  simp only [if_true, if_neg (show ¬ (many < -500 ∨ 500 < many) by omega), if_neg (show ¬ many = 0 by omega), if_neg (show ¬ 0 < many by omega)]
  exact dn_at h0 (by omega) (by omega) (by omega) hb hc
theorem ste_zero {W : Int} {hs : List Int} {n : Int} (h : calE W hs = 0) (h0 : 0 ≤ n) (h2 : n ≤ 3652058) : steR W hs n 0 = n ∧ steE W hs n 0 = 0 := by
  unfold steR steE stpR stpE
  rw [days_mk1 h h0 h2]
  exact ⟨rfl, rfl⟩

theorem fits_of {zs : List Int} (h : ∀ n ∈ zs, (Lit.int .i64 n).wf = true) : Fits zs := fun j hj => by
  rw [List.getD_eq_getElem?_getD, List.getElem?_eq_getElem hj]
  exact wf_i64 (h _ (List.getElem_mem hj))

end Go.Proofs.Ytmoanndonfmihaa
