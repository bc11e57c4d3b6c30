/-
  What Next, Step and Fit of package cal do: contracts.
-/
import Derived.Test.YtmoanndonfmihaaCalD
namespace Go.Proofs.Ytmoanndonfmihaa
open Go.RowKit
set_option linter.unusedVariables false

theorem far_up {n : Int} (h0 : 0 ≤ n) (h1 : n ≤ 3652059) : Far n 1 (3652059 - n).toNat :=
  ⟨.inl rfl, fun k hk => by omega, .inr (by omega), by omega⟩
theorem far_dn {n : Int} (h0 : -1 ≤ n) (h1 : n ≤ 3652058) : Far n (-1) (n + 1).toNat :=
  ⟨.inr rfl, fun k hk => by omega, .inl (by omega), by omega⟩
/-- the many-th business day from a day on; up to a day -/
def upR (W : Int) (hs : List Int) (n : Int) (m : Nat) : Int := nthR (vis (bizB W hs) n 1 (3652059 - n).toNat) m
def upE (W : Int) (hs : List Int) (n : Int) (m : Nat) : Int := nthE (vis (bizB W hs) n 1 (3652059 - n).toNat) m
def dnR (W : Int) (hs : List Int) (n : Int) (m : Nat) : Int := nthR (vis (bizB W hs) n (-1) (n + 1).toNat) m
def dnE (W : Int) (hs : List Int) (n : Int) (m : Nat) : Int := nthE (vis (bizB W hs) n (-1) (n + 1).toNat) m

/-- 'the days from start on, in a direction', as business hands them back -/
def BizF (W : Int) (v : Value) (hs : List Int) (start dir : Int) (w : World) (e : Ending) (w' : World) : Prop :=
  ∃ b4 b5 b3, e = .returned (.func (.func 164) #[] #[.pointer (some ⟨b4, 0, none⟩), .pointer (some ⟨b5, 0, none⟩), .pointer (some ⟨b3, 0, none⟩)]) ∧ Held w' W v hs start dir b4 b5 b3 ∧ Grew w w'
theorem business_is (W start dir : Int) (v : Value) (hs : List Int) (w : World) (hr : Reads w v hs) :
    Calls Try.prog 148 #[calV W v, .int .i64 start, .int .i64 dir] w (BizF W v hs start dir w) :=
  (business_any W start dir v hs w hr).mono fun e w' h => ⟨_, _, _, h.1, h.2⟩

theorem nth_up (W : Int) (a : Option Addr) (cap : Nat) (hs : List Int) (n : Int) (h0 : 0 ≤ n) (h1 : n ≤ 3652059) (b4 b5 b3 : Nat) (many : Int) (m0 : 1 ≤ many) (m1 : many ≤ 1000) (hE : calE W hs = 0) (w : World) (hH : Held w W (.slice a hs.length cap) hs n 1 b4 b5 b3) :
    Calls Try.prog 147 #[.func (.func 164) #[] #[.pointer (some ⟨b4, 0, none⟩), .pointer (some ⟨b5, 0, none⟩), .pointer (some ⟨b3, 0, none⟩)], .int .i64 many] w fun e w' => e = .returned (.tuple #[.int .i64 (upR W hs n many.toNat), .int .i64 (upE W hs n many.toNat)]) ∧ Kpt w w' := by
  have := nth_biz W a cap hs n 1 _ b4 b5 b3 many.toNat (by omega) (by omega) hE (far_up h0 h1) w hH
  rw [show ((many.toNat : Nat) : Int) = many by omega] at this
  exact this
theorem nth_dn (W : Int) (a : Option Addr) (cap : Nat) (hs : List Int) (n : Int) (h0 : -1 ≤ n) (h1 : n ≤ 3652058) (b4 b5 b3 : Nat) (many : Int) (m0 : 1 ≤ many) (m1 : many ≤ 1000) (hE : calE W hs = 0) (w : World) (hH : Held w W (.slice a hs.length cap) hs n (-1) b4 b5 b3) :
    Calls Try.prog 147 #[.func (.func 164) #[] #[.pointer (some ⟨b4, 0, none⟩), .pointer (some ⟨b5, 0, none⟩), .pointer (some ⟨b3, 0, none⟩)], .int .i64 many] w fun e w' => e = .returned (.tuple #[.int .i64 (dnR W hs n many.toNat), .int .i64 (dnE W hs n many.toNat)]) ∧ Kpt w w' := by
  have := nth_biz W a cap hs n (-1) _ b4 b5 b3 many.toNat (by omega) (by omega) hE (far_dn h0 h1) w hH
  rw [show ((many.toNat : Nat) : Int) = many by omega] at this
  exact this

/-- checkDays of one day, where a calendar was boxed -/
theorem check1 (W n : Int) (a : Option Addr) (cap : Nat) (hs : List Int) (w : World) (hr : Reads w (.slice a hs.length cap) hs) (hf : Fits hs) :
    Calls Try.prog 113 #[calV W (.slice a hs.length cap), .slice (some ⟨w.heap.size + 1, 0, none⟩) 1 1] ((w.alloc (.cells #[.int .i64 W, .slice a hs.length cap] 24)).alloc (.cells #[.int .i64 n] 3)) fun e w' => e = .returned (.int .i64 (daysE W hs [n])) ∧ Grew w w' ∧ w'.cell? ⟨w.heap.size, 0, none⟩ = some (.int .i64 W) ∧ w'.cell? ⟨w.heap.size, 1, none⟩ = some (.slice a hs.length cap) := by
  have := checkDays_any W (.slice a hs.length cap) hs [n] (w.heap.size + 1) 0 1 ((w.alloc (.cells #[.int .i64 W, .slice a hs.length cap] 24)).alloc (.cells #[.int .i64 n] 3)) (hr.grew (((Grew.refl w).alloc _ _).alloc _ _)) hf (by simp) (by
    have := one_cell (w.alloc (.cells #[.int .i64 W, .slice a hs.length cap] 24)) n
    rw [World.size_alloc] at this
    exact this)
  refine this.mono ?_
  rintro e w' ⟨rfl, g⟩
  exact ⟨rfl, gtr (((Grew.refl w).alloc _ _).alloc _ _) g, g.cell (p := ⟨w.heap.size, 0, none⟩) (v := .int .i64 W) (by simp; omega) (by simp [go_sem]), g.cell (p := ⟨w.heap.size, 1, none⟩) (v := .slice a hs.length cap) (by simp; omega) (by simp [go_sem])⟩

end Go.Proofs.Ytmoanndonfmihaa
