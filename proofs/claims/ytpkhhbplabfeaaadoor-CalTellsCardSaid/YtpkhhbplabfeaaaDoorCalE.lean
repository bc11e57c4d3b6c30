/-
  What Next, Step and Fit of package cal do: contracts.
-/
import Derived.Test.YtpkhhbplabfeaaaDoorCalD
namespace Go.Proofs.YtpkhhbplabfeaaaDoor
open Go.RowKit
set_option linter.unusedVariables false

theorem far_up {n : Int} (h0 : 0 ≤ n) (h1 : n ≤ 3652059) : Far n 1 (3652059 - n).toNat :=
  ⟨.inl rfl, fun k hk => by omega, .inr (by omega), by omega⟩
theorem far_dn {n : Int} (h0 : -1 ≤ n) (h1 : n ≤ 3652058) : Far n (-1) (n + 1).toNat :=
  ⟨.inr rfl, fun k hk => by omega, .inl (by omega), by omega⟩
/-- the many-th business day from a day on; up to a day -/
def upR (W : Int) (hs : List Int) (n : Int) (m : Nat) : Int := nthR (vis (bizB W hs) n 1 (3652059 - n).toNat) m
def upE (W : Int) (hs : List Int) (n : Int) (m : Nat) : Int := nthE (vis (bizB W hs) n 1 (3652059 - n).toNat) m
def dnR (W : Int) (hs : List Int) (n : Int) (m : Nat) : Int := nthR (vis (bizB W hs) n (-1) (n + 1).toNat) m
def dnE (W : Int) (hs : List Int) (n : Int) (m : Nat) : Int := nthE (vis (bizB W hs) n (-1) (n + 1).toNat) m

/-- 'the days from start on, in a direction', as business hands them back -/
def BizF (W : Int) (v : Value) (hs : List Int) (start dir : Int) (w : World) (e : Ending) (w' : World) : Prop :=
  ∃ b4 b5 b3, e = .returned (.func (.func 30) #[] #[.pointer (some ⟨b4, 0, none⟩), .pointer (some ⟨b5, 0, none⟩), .pointer (some ⟨b3, 0, none⟩)]) ∧ Held w' W v hs start dir b4 b5 b3 ∧ Grew w w'
theorem business_is (W start dir : Int) (v : Value) (hs : List Int) (w : World) (hr : Reads w v hs) :
    Calls Tryd.prog 20 #[calV W v, .int .i64 start, .int .i64 dir] w (BizF W v hs start dir w) :=
  (business_any W start dir v hs w hr).mono fun e w' h => ⟨_, _, _, h.1, h.2⟩

theorem nth_up (W : Int) (a : Option Addr) (cap : Nat) (hs : List Int) (n : Int) (h0 : 0 ≤ n) (h1 : n ≤ 3652059) (b4 b5 b3 : Nat) (many : Int) (m0 : 1 ≤ many) (m1 : many ≤ 1000) (hE : calE W hs = 0) (w : World) (hH : Held w W (.slice a hs.length cap) hs n 1 b4 b5 b3) :
    Calls Tryd.prog 19 #[.func (.func 30) #[] #[.pointer (some ⟨b4, 0, none⟩), .pointer (some ⟨b5, 0, none⟩), .pointer (some ⟨b3, 0, none⟩)], .int .i64 many] w fun e w' => e = .returned (.tuple #[.int .i64 (upR W hs n many.toNat), .int .i64 (upE W hs n many.toNat)]) ∧ Kpt w w' := by
  have := nth_biz W a cap hs n 1 _ b4 b5 b3 many.toNat (by omega) (by omega) hE (far_up h0 h1) w hH
  rw [show ((many.toNat : Nat) : Int) = many by omega] at this
  exact this
theorem nth_dn (W : Int) (a : Option Addr) (cap : Nat) (hs : List Int) (n : Int) (h0 : -1 ≤ n) (h1 : n ≤ 3652058) (b4 b5 b3 : Nat) (many : Int) (m0 : 1 ≤ many) (m1 : many ≤ 1000) (hE : calE W hs = 0) (w : World) (hH : Held w W (.slice a hs.length cap) hs n (-1) b4 b5 b3) :
    Calls Tryd.prog 19 #[.func (.func 30) #[] #[.pointer (some ⟨b4, 0, none⟩), .pointer (some ⟨b5, 0, none⟩), .pointer (some ⟨b3, 0, none⟩)], .int .i64 many] w fun e w' => e = .returned (.tuple #[.int .i64 (dnR W hs n many.toNat), .int .i64 (dnE W hs n many.toNat)]) ∧ Kpt w w' := by
  have := nth_biz W a cap hs n (-1) _ b4 b5 b3 many.toNat (by omega) (by omega) hE (far_dn h0 h1) w hH
  rw [show ((many.toNat : Nat) : Int) = many by omega] at this
  exact this

/-- checkDays of one day, where a calendar was boxed -/
theorem check1 (W n : Int) (a : Option Addr) (cap : Nat) (hs : List Int) (w : World) (hr : Reads w (.slice a hs.length cap) hs) (hf : Fits hs) :
    Calls Tryd.prog 17 #[calV W (.slice a hs.length cap), .slice (some ⟨w.heap.size + 1, 0, none⟩) 1 1] ((w.alloc (.cells #[.int .i64 W, .slice a hs.length cap] 24)).alloc (.cells #[.int .i64 n] 3)) fun e w' => e = .returned (.int .i64 (daysE W hs [n])) ∧ Grew w w' ∧ w'.cell? ⟨w.heap.size, 0, none⟩ = some (.int .i64 W) ∧ w'.cell? ⟨w.heap.size, 1, none⟩ = some (.slice a hs.length cap) := by
  have := checkDays_any W (.slice a hs.length cap) hs [n] (w.heap.size + 1) 0 1 ((w.alloc (.cells #[.int .i64 W, .slice a hs.length cap] 24)).alloc (.cells #[.int .i64 n] 3)) (hr.grew (((Grew.refl w).alloc _ _).alloc _ _)) hf (by simp) (by
    have := one_cell (w.alloc (.cells #[.int .i64 W, .slice a hs.length cap] 24)) n
    rw [World.size_alloc] at this
    exact this)
  refine this.mono ?_
  rintro e w' ⟨rfl, g⟩
  exact ⟨rfl, gtr (((Grew.refl w).alloc _ _).alloc _ _) g, g.cell (p := ⟨w.heap.size, 0, none⟩) (v := .int .i64 W) (by simp; omega) (by simp [go_sem]), g.cell (p := ⟨w.heap.size, 1, none⟩) (v := .slice a hs.length cap) (by simp; omega) (by simp [go_sem])⟩

set_option maxRecDepth 100000 in
theorem next_bad (W n : Int) (v : Value) (hs : List Int) (w : World) (hr : Reads w v hs) (hf : Fits hs) (hE : daysE W hs [n] ≠ 0) :
    Calls Tryd.prog 5 #[calV W v, .int .i64 n] w fun e w' => e = .returned (.tuple #[.int .i64 0, .int .i64 (daysE W hs [n])]) ∧ Kpt w w' := by
  obtain ⟨a, cap, rfl, hm, hc⟩ := id hr
  have CK := Lib.hid (check1 W n a cap hs w hr hf)
  generalize daysE W hs [n] = x at CK hE ⊢
  have q : (x == 0) = false := beq_eq_false_iff_ne.2 hE
  clear hr hm hc hE
  go_enter Tryd.func5, Tryd.ntmps5
  go_wp2_with (go_at_call 17; (with_reducible refine CK.out.mono ?_); rintro e w1 ⟨rfl, g1, -, -⟩; have G1 := Lib.hid g1; clear g1)
  go_ret2
  exact ⟨rfl, G1.out.kpt⟩
set_option maxRecDepth 100000 in
set_option maxHeartbeats 1000000 in
theorem next_ok (W n : Int) (v : Value) (hs : List Int) (w : World) (hr : Reads w v hs) (hf : Fits hs) (hE : daysE W hs [n] = 0) :
    Calls Tryd.prog 5 #[calV W v, .int .i64 n] w fun e w' => e = .returned (.tuple #[.int .i64 (upR W hs n 1), .int .i64 (upE W hs n 1)]) ∧ Kpt w w' := by
  obtain ⟨hE0, n0, n1⟩ := daysE_1 hE
  obtain ⟨a, cap, rfl, hm, hc⟩ := id hr
  have CK := Lib.hid (hE ▸ check1 W n a cap hs w hr hf)
  have BU := Lib.hid (fun w' (g : Grew w w') => business_is W n 1 _ hs w' (hr.grew g))
  have NT := Lib.hid (fun b4 b5 b3 => nth_up W a cap hs n n0 (by omega) b4 b5 b3 1 (by decide) (by decide) hE0)
  clear hr hm hc hE hE0 hf
  generalize hx : upR W hs n (1 : Int).toNat = x at NT
  generalize hy : upE W hs n (1 : Int).toNat = y at NT
  have HX := Lib.hid hx
  have HY := Lib.hid hy
  clear hx hy
  go_enter Tryd.func5, Tryd.ntmps5
  go_wp2_with (first
    | (go_at_call 17; (with_reducible refine CK.out.mono ?_); rintro e w1 ⟨rfl, g1, c0, c1⟩; have G1 := Lib.hid g1; clear g1)
    | (go_at_call 20; (with_reducible refine (BU.out _ G1.out).mono ?_); rintro e w2 ⟨b4, b5, b3, rfl, hH, g2⟩; have HH := Lib.hid hH; have G2 := Lib.hid g2; clear hH g2)
    | (go_at_call 19; (with_reducible refine (NT.out _ _ _ _ HH.out).mono ?_); rintro e w3 ⟨rfl, g3⟩; have G3 := Lib.hid g3; clear g3))
  go_ret2
  exact ⟨by rw [← HX.out, ← HY.out]; rfl, ktr (gtr G1.out G2.out).kpt G3.out⟩

end Go.Proofs.YtpkhhbplabfeaaaDoor
