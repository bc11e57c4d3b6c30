/-
  ClaimGrow: the law answers true.
-/
import Derived.Test.YtklaojahocjeiaaClmK
import Derived.Test.YtklaojahocjeiaaClmO
import Derived.Test.YtklaojahocjeiaaSameF
import Derived.Test.YtklaojahocjeiaaFailG
namespace Go.Proofs.Ytklaojahocjeiaa
open Go.RowKit
set_option linter.unusedVariables false

set_option maxHeartbeats 2000000 in
theorem cgr_bad (P C G O E : Int) (v : Value) (w : World) (hE : E ≠ 0) (hR : ∀ w', Kpt w w' → Calls Try.prog 11 #[.agg #[.int .i64 P, .int .i64 C, .int .i64 G, .int .i64 O], v] w' fun e w'' => e = .returned (.tuple #[.slice none 0 0, .int .i64 E]) ∧ Kpt w' w'') : Calls Try.prog 6 #[.agg #[.int .i64 P, .int .i64 C, .int .i64 G, .int .i64 O], v] w fun e w' => e = .returned (.bool true) ∧ Kpt w w' := by
  have R := Lib.hid hR
  have y : (E != 0) = true := bne_iff_ne.2 hE
  clear hR hE
  have K0 : Hid (Kpt w (w.alloc (.cells #[.int .i64 P, .int .i64 C, .int .i64 G, .int .i64 O] 23))) := (Kpt.refl w).alloc _
  have B0 : Hid (Blk (w.alloc (.cells #[.int .i64 P, .int .i64 C, .int .i64 G, .int .i64 O] 23)) w.heap.size #[.int .i64 P, .int .i64 C, .int .i64 G, .int .i64 O] 23) := Blk.made w _ _
  go_enter Try.func6, Try.ntmps6
  go_wp2_with (first
    | (go_at_call 17; (with_reducible refine (claimBegun _).mono ?_); rintro e w1 ⟨rfl, k1⟩; have K0 := Lib.hid (ktr K0.out k1); have B0 := Lib.hid (B0.out.kpt k1); have x0 : World.cell? w1 ⟨w.heap.size, 0, none⟩ = some (.int .i64 P) := B0.out.cell 0; have x1 : World.cell? w1 ⟨w.heap.size, 1, none⟩ = some (.int .i64 C) := B0.out.cell 1; have x2 : World.cell? w1 ⟨w.heap.size, 2, none⟩ = some (.int .i64 G) := B0.out.cell 2; have x3 : World.cell? w1 ⟨w.heap.size, 3, none⟩ = some (.int .i64 O) := B0.out.cell 3; clear k1)
    | (go_at_call 24; (with_reducible refine (failBegun _).mono ?_); rintro e w2 ⟨rfl, k1⟩; have K0 := Lib.hid (ktr K0.out k1); have B0 := Lib.hid (B0.out.kpt k1); have x0 : World.cell? w2 ⟨w.heap.size, 0, none⟩ = some (.int .i64 P) := B0.out.cell 0; have x1 : World.cell? w2 ⟨w.heap.size, 1, none⟩ = some (.int .i64 C) := B0.out.cell 1; have x2 : World.cell? w2 ⟨w.heap.size, 2, none⟩ = some (.int .i64 G) := B0.out.cell 2; have x3 : World.cell? w2 ⟨w.heap.size, 3, none⟩ = some (.int .i64 O) := B0.out.cell 3; clear k1)
    | (go_at_call 11; (with_reducible refine (R.out _ K0.out).mono ?_); rintro e w3 ⟨rfl, k1⟩; have K0 := Lib.hid (ktr K0.out k1); have B0 := Lib.hid (B0.out.kpt k1); have x0 : World.cell? w3 ⟨w.heap.size, 0, none⟩ = some (.int .i64 P) := B0.out.cell 0; have x1 : World.cell? w3 ⟨w.heap.size, 1, none⟩ = some (.int .i64 C) := B0.out.cell 1; have x2 : World.cell? w3 ⟨w.heap.size, 2, none⟩ = some (.int .i64 G) := B0.out.cell 2; have x3 : World.cell? w3 ⟨w.heap.size, 3, none⟩ = some (.int .i64 O) := B0.out.cell 3; clear k1))
  go_ret
  exact ⟨rfl, K0.out⟩

set_option maxRecDepth 100000 in
set_option maxHeartbeats 4000000 in
theorem cgr_ok (P C G O : Int) (a : Option Addr) (cap : Nat) (fs K : List (List Int)) (w : World) (hr : ReadsF w (.slice a fs.length cap) fs) (hl : K.length = fs.length) (hc : checksE K = 0)
    (hR : ∀ w', Kpt w w' → Calls Try.prog 11 #[.agg #[.int .i64 P, .int .i64 C, .int .i64 G, .int .i64 O], .slice a fs.length cap] w' fun e w'' => ∃ a2 c2, e = .returned (.tuple #[.slice a2 fs.length c2, .int .i64 0]) ∧ ReadsF w'' (.slice a2 fs.length c2) K ∧ Kpt w' w'')
    (hp : ∀ k, k < fs.length → ∃ i f t c p d u x b y u', (∀ w g o, FlAt w g o (fs.getD k []) → FlAt w g o [i, f, t, c, p, d, u, x, b, y]) ∧ (∀ w g o, FlAt w g o (K.getD k []) → FlAt w g o [i, f, t, c, p, d, u', x, b, y]) ∧
      failE i f t c p d u x b y = 0 ∧ failE i f t c p d u' x b y = 0 ∧ openV i f t c p d u x b y ≤ openV i f t c p d u' x b y ∧ (openV i f t c p d u x b y < openV i f t c p d u' x b y → p = P ∧ openV i f t c p d u x b y ≠ 0)) :
    Calls Try.prog 6 #[.agg #[.int .i64 P, .int .i64 C, .int .i64 G, .int .i64 O], .slice a fs.length cap] w fun e w' => e = .returned (.bool true) ∧ Kpt w w' := by
  have R := Lib.hid hR
  have HP := Lib.hid hp
  have HR := Lib.hid hr
  have CK := Lib.hid (fun v w' (h : ReadsF w' v K) => checks_run v K w' h)
  rw [hc] at CK
  have hlen : fs.length ≤ maxLen := by obtain ⟨_, _, e, hm, -⟩ := hr; exact hm
  unfold maxLen at hlen
  have HL := Lib.hid hl
  clear hR hp hr hc hl
  have K0 : Hid (Kpt w (w.alloc (.cells #[.int .i64 P, .int .i64 C, .int .i64 G, .int .i64 O] 23))) := (Kpt.refl w).alloc _
  have B0 : Hid (Blk (w.alloc (.cells #[.int .i64 P, .int .i64 C, .int .i64 G, .int .i64 O] 23)) w.heap.size #[.int .i64 P, .int .i64 C, .int .i64 G, .int .i64 O] 23) := Blk.made w _ _
  go_enter Try.func6, Try.ntmps6
  go_wp2_with (first
    | (go_at_call 17; (with_reducible refine (claimBegun _).mono ?_); rintro e w1 ⟨rfl, k1⟩; have RK := Lib.hid (RK.out.kpt k1); have K0 := Lib.hid (ktr K0.out k1); have B0 := Lib.hid (B0.out.kpt k1); have x0 : World.cell? w1 ⟨w.heap.size, 0, none⟩ = some (.int .i64 P) := B0.out.cell 0; have x1 : World.cell? w1 ⟨w.heap.size, 1, none⟩ = some (.int .i64 C) := B0.out.cell 1; have x2 : World.cell? w1 ⟨w.heap.size, 2, none⟩ = some (.int .i64 G) := B0.out.cell 2; have x3 : World.cell? w1 ⟨w.heap.size, 3, none⟩ = some (.int .i64 O) := B0.out.cell 3; clear k1)
    | (go_at_call 24; (with_reducible refine (failBegun _).mono ?_); rintro e w2 ⟨rfl, k1⟩; have RK := Lib.hid (RK.out.kpt k1); have K0 := Lib.hid (ktr K0.out k1); have B0 := Lib.hid (B0.out.kpt k1); have x0 : World.cell? w2 ⟨w.heap.size, 0, none⟩ = some (.int .i64 P) := B0.out.cell 0; have x1 : World.cell? w2 ⟨w.heap.size, 1, none⟩ = some (.int .i64 C) := B0.out.cell 1; have x2 : World.cell? w2 ⟨w.heap.size, 2, none⟩ = some (.int .i64 G) := B0.out.cell 2; have x3 : World.cell? w2 ⟨w.heap.size, 3, none⟩ = some (.int .i64 O) := B0.out.cell 3; clear k1)
    | (go_at_call 11; (with_reducible refine (R.out _ K0.out).mono ?_); rintro e w3 ⟨a2, c2, rfl, rk, k1⟩; have RK := Lib.hid rk; have K0 := Lib.hid (ktr K0.out k1); have B0 := Lib.hid (B0.out.kpt k1); have x0 : World.cell? w3 ⟨w.heap.size, 0, none⟩ = some (.int .i64 P) := B0.out.cell 0; have x1 : World.cell? w3 ⟨w.heap.size, 1, none⟩ = some (.int .i64 C) := B0.out.cell 1; have x2 : World.cell? w3 ⟨w.heap.size, 2, none⟩ = some (.int .i64 G) := B0.out.cell 2; have x3 : World.cell? w3 ⟨w.heap.size, 3, none⟩ = some (.int .i64 O) := B0.out.cell 3; clear k1; clear rk)
    | (go_at_call 27; (with_reducible refine (CK.out _ _ RK.out).mono ?_); rintro e w5 ⟨rfl, k1⟩; have RK := Lib.hid (RK.out.kpt k1); have K0 := Lib.hid (ktr K0.out k1); have B0 := Lib.hid (B0.out.kpt k1); have x0 : World.cell? w5 ⟨w.heap.size, 0, none⟩ = some (.int .i64 P) := B0.out.cell 0; have x1 : World.cell? w5 ⟨w.heap.size, 1, none⟩ = some (.int .i64 C) := B0.out.cell 1; have x2 : World.cell? w5 ⟨w.heap.size, 2, none⟩ = some (.int .i64 G) := B0.out.cell 2; have x3 : World.cell? w5 ⟨w.heap.size, 3, none⟩ = some (.int .i64 O) := B0.out.cell 3; clear k1))
  clear R CK
  go_loopw [7] (fun i wr => ∃ k : Nat, k ≤ fs.length ∧ i = .int .i64 k ∧ Hid (Kpt w5 wr)) (fun i _ => fs.length - (intOf i).toNat)
  case atStart => exact ⟨0, Nat.zero_le _, rfl, Kpt.refl _⟩
  case round =>
    obtain ⟨k, hk, rfl, HK⟩ := hrel
    have HB := Lib.hid (B0.out.kpt HK.out)
    have KW := Lib.hid (ktr K0.out HK.out)
    clear x0 x1 x2 x3 B0
    by_cases hlt : k < fs.length
    · obtain ⟨i, f, t, c, p, d, u, x, b, y, u', q1, q2, q3, q4, q5, q6⟩ := HP.out k hlt
      obtain ⟨a', cap', e, -, -, hcc⟩ := HR.out
      injection e with e1 e2 e3
      subst e1 e3
      clear e2
      obtain ⟨g, off, rfl, hfl⟩ := hcc k hlt
      have FL := Lib.hid (q1 _ _ _ (hfl.kpt KW.out))
      obtain ⟨a3, cap3, e, -, -, hcc2⟩ := RK.out
      injection e with e1 e2 e3
      subst e1 e3
      clear e2
      obtain ⟨g2, off2, e, hfl2⟩ := hcc2 k (by have := HL.out; omega)
      subst e
      have FK := Lib.hid (q2 _ _ _ (hfl2.kpt HK.out))
      have OA := Lib.hid (fun w => fopenX_run i f t c p d u x b y w)
      rw [q3] at OA
      have OB := Lib.hid (fun w => fopenX_run i f t c p d u' x b y w)
      rw [q4] at OB
      have qn := neqF i f t c p d u' x b y
      generalize openV i f t c p d u x b y = o at *
      generalize openV i f t c p d u' x b y = n at *
      have y1 : decide (n < o) = false := decide_eq_false (by omega)
      have b0 : (0 : Int) ≤ (k : Int) := by omega
      have b1 : (k : Int) < (fs.length : Int) := by omega
      have c0 : World.cell? wr ⟨g, off + k * 10, none⟩ = some (.int .i64 i) := FL.out 0 (by decide); have c1 : World.cell? wr ⟨g, off + k * 10 + 1, none⟩ = some (.int .i64 f) := FL.out 1 (by decide); have c2 : World.cell? wr ⟨g, off + k * 10 + 2, none⟩ = some (.int .i64 t) := FL.out 2 (by decide); have c3 : World.cell? wr ⟨g, off + k * 10 + 3, none⟩ = some (.int .i64 c) := FL.out 3 (by decide); have c4 : World.cell? wr ⟨g, off + k * 10 + 4, none⟩ = some (.int .i64 p) := FL.out 4 (by decide); have c5 : World.cell? wr ⟨g, off + k * 10 + 5, none⟩ = some (.int .i64 d) := FL.out 5 (by decide); have c6 : World.cell? wr ⟨g, off + k * 10 + 6, none⟩ = some (.int .i64 u) := FL.out 6 (by decide); have c7 : World.cell? wr ⟨g, off + k * 10 + 7, none⟩ = some (.int .i64 x) := FL.out 7 (by decide); have c8 : World.cell? wr ⟨g, off + k * 10 + 8, none⟩ = some (.int .i64 b) := FL.out 8 (by decide); have c9 : World.cell? wr ⟨g, off + k * 10 + 9, none⟩ = some (.int .i64 y) := FL.out 9 (by decide); 
      clear hcc hfl q1 hcc2 hfl2 q2 q3 q4
      by_cases hgt : o < n
      · have y2 : decide (o < n) = true := decide_eq_true hgt
        have y3 : (p != P) = false := by rw [(q6 hgt).1]; exact bne_self_eq_false _
        have y4 : (o == 0) = false := beq_eq_false_iff_ne.2 (q6 hgt).2
        clear q5 q6 hgt
        go_wp2_with (first
          | (go_at_call 26; (with_reducible refine (OA.out _).mono ?_); rintro e w1 ⟨rfl, k1⟩; have K1 := Lib.hid k1; have FK1 := Lib.hid (FK.out.kpt K1.out); have d0 : World.cell? w1 ⟨g2, off2 + k * 10, none⟩ = some (.int .i64 i) := FK1.out 0 (by decide); have d1 : World.cell? w1 ⟨g2, off2 + k * 10 + 1, none⟩ = some (.int .i64 f) := FK1.out 1 (by decide); have d2 : World.cell? w1 ⟨g2, off2 + k * 10 + 2, none⟩ = some (.int .i64 t) := FK1.out 2 (by decide); have d3 : World.cell? w1 ⟨g2, off2 + k * 10 + 3, none⟩ = some (.int .i64 c) := FK1.out 3 (by decide); have d4 : World.cell? w1 ⟨g2, off2 + k * 10 + 4, none⟩ = some (.int .i64 p) := FK1.out 4 (by decide); have d5 : World.cell? w1 ⟨g2, off2 + k * 10 + 5, none⟩ = some (.int .i64 d) := FK1.out 5 (by decide); have d6 : World.cell? w1 ⟨g2, off2 + k * 10 + 6, none⟩ = some (.int .i64 u') := FK1.out 6 (by decide); have d7 : World.cell? w1 ⟨g2, off2 + k * 10 + 7, none⟩ = some (.int .i64 x) := FK1.out 7 (by decide); have d8 : World.cell? w1 ⟨g2, off2 + k * 10 + 8, none⟩ = some (.int .i64 b) := FK1.out 8 (by decide); have d9 : World.cell? w1 ⟨g2, off2 + k * 10 + 9, none⟩ = some (.int .i64 y) := FK1.out 9 (by decide); clear k1 OA)
          | (go_at_call 26; (with_reducible refine (OB.out _).mono ?_); rintro e w2 ⟨rfl, k1⟩; have K2 : Hid (Kpt wr w2) := Lib.hid (ktr K1.out k1); have FL2 := Lib.hid (FL.out.kpt K2.out); have c0 : World.cell? w2 ⟨g, off + k * 10, none⟩ = some (.int .i64 i) := FL2.out 0 (by decide); have c1 : World.cell? w2 ⟨g, off + k * 10 + 1, none⟩ = some (.int .i64 f) := FL2.out 1 (by decide); have c2 : World.cell? w2 ⟨g, off + k * 10 + 2, none⟩ = some (.int .i64 t) := FL2.out 2 (by decide); have c3 : World.cell? w2 ⟨g, off + k * 10 + 3, none⟩ = some (.int .i64 c) := FL2.out 3 (by decide); have c4 : World.cell? w2 ⟨g, off + k * 10 + 4, none⟩ = some (.int .i64 p) := FL2.out 4 (by decide); have c5 : World.cell? w2 ⟨g, off + k * 10 + 5, none⟩ = some (.int .i64 d) := FL2.out 5 (by decide); have c6 : World.cell? w2 ⟨g, off + k * 10 + 6, none⟩ = some (.int .i64 u) := FL2.out 6 (by decide); have c7 : World.cell? w2 ⟨g, off + k * 10 + 7, none⟩ = some (.int .i64 x) := FL2.out 7 (by decide); have c8 : World.cell? w2 ⟨g, off + k * 10 + 8, none⟩ = some (.int .i64 b) := FL2.out 8 (by decide); have c9 : World.cell? w2 ⟨g, off + k * 10 + 9, none⟩ = some (.int .i64 y) := FL2.out 9 (by decide); have ZB : Hid (Blk (w2.alloc (.cells #[.int .i64 0, .int .i64 0, .int .i64 0, .int .i64 0, .int .i64 0, .int .i64 0, .int .i64 0, .int .i64 0, .int .i64 0, .int .i64 0] 49)) w2.heap.size #[.int .i64 0, .int .i64 0, .int .i64 0, .int .i64 0, .int .i64 0, .int .i64 0, .int .i64 0, .int .i64 0, .int .i64 0, .int .i64 0] 49) := Blk.made _ _ _; have KZ : Hid (Kpt w2 (w2.alloc (.cells #[.int .i64 0, .int .i64 0, .int .i64 0, .int .i64 0, .int .i64 0, .int .i64 0, .int .i64 0, .int .i64 0, .int .i64 0, .int .i64 0] 49))) := (Kpt.refl w2).alloc _; clear k1 OB)
          | (refine wp_storeF rfl (.tmp 12) (.tmp 65) rfl w2.heap.size _ _ rfl rfl ZB.out rfl rfl (by simp [Value.oneCell']) ?_; intro w3 r9 k9 o9; have R9 := Lib.hid r9; have K3 : Hid (Kpt wr w3) := Lib.hid (ktr K2.out (k9 _ _ KZ.out (Nat.le_refl _))); have hs2 : wr.heap.size ≤ w2.heap.size := Below.size K2.out; have K4 : Hid (Kpt wr (w3.setCell ⟨w2.heap.size, 6, none⟩ (.int .i64 u'))) := K3.out.setCell (p := ⟨w2.heap.size, 6, none⟩) hs2 _; have FK3 := Lib.hid (FK.out.kpt K3.out); have e6 : World.cell? w3 ⟨g2, off2 + k * 10 + 6, none⟩ = some (.int .i64 u') := FK3.out 6 (by decide); have f6 : World.frozen? w3 ⟨w2.heap.size, 6, none⟩ = false := R9.out.frozen 6; have v6 : World.cell? w3 ⟨w2.heap.size, 6, none⟩ = some (.int .i64 u) := R9.out.cell 6; have FK4 := Lib.hid (FK.out.kpt K4.out); have FL4 := Lib.hid (FL.out.kpt K4.out); have B4 := Lib.hid (HB.out.kpt K4.out); have z0 : World.cell? (w3.setCell ⟨w2.heap.size, 6, none⟩ (.int .i64 u')) ⟨w.heap.size, 0, none⟩ = some (.int .i64 P) := B4.out.cell 0; have RP := Lib.hid (R9.out.put 6 (.int .i64 u')); have s0 : World.cell? (w3.setCell ⟨w2.heap.size, 6, none⟩ (.int .i64 u')) ⟨w2.heap.size, 0, none⟩ = some (.int .i64 i) := RP.out.cell 0; have s1 : World.cell? (w3.setCell ⟨w2.heap.size, 6, none⟩ (.int .i64 u')) ⟨w2.heap.size, 1, none⟩ = some (.int .i64 f) := RP.out.cell 1; have s2 : World.cell? (w3.setCell ⟨w2.heap.size, 6, none⟩ (.int .i64 u')) ⟨w2.heap.size, 2, none⟩ = some (.int .i64 t) := RP.out.cell 2; have s3 : World.cell? (w3.setCell ⟨w2.heap.size, 6, none⟩ (.int .i64 u')) ⟨w2.heap.size, 3, none⟩ = some (.int .i64 c) := RP.out.cell 3; have s4 : World.cell? (w3.setCell ⟨w2.heap.size, 6, none⟩ (.int .i64 u')) ⟨w2.heap.size, 4, none⟩ = some (.int .i64 p) := RP.out.cell 4; have s5 : World.cell? (w3.setCell ⟨w2.heap.size, 6, none⟩ (.int .i64 u')) ⟨w2.heap.size, 5, none⟩ = some (.int .i64 d) := RP.out.cell 5; have s6 : World.cell? (w3.setCell ⟨w2.heap.size, 6, none⟩ (.int .i64 u')) ⟨w2.heap.size, 6, none⟩ = some (.int .i64 u') := RP.out.cell 6; have s7 : World.cell? (w3.setCell ⟨w2.heap.size, 6, none⟩ (.int .i64 u')) ⟨w2.heap.size, 7, none⟩ = some (.int .i64 x) := RP.out.cell 7; have s8 : World.cell? (w3.setCell ⟨w2.heap.size, 6, none⟩ (.int .i64 u')) ⟨w2.heap.size, 8, none⟩ = some (.int .i64 b) := RP.out.cell 8; have s9 : World.cell? (w3.setCell ⟨w2.heap.size, 6, none⟩ (.int .i64 u')) ⟨w2.heap.size, 9, none⟩ = some (.int .i64 y) := RP.out.cell 9; have d0 : World.cell? (w3.setCell ⟨w2.heap.size, 6, none⟩ (.int .i64 u')) ⟨g2, off2 + k * 10, none⟩ = some (.int .i64 i) := FK4.out 0 (by decide); have d1 : World.cell? (w3.setCell ⟨w2.heap.size, 6, none⟩ (.int .i64 u')) ⟨g2, off2 + k * 10 + 1, none⟩ = some (.int .i64 f) := FK4.out 1 (by decide); have d2 : World.cell? (w3.setCell ⟨w2.heap.size, 6, none⟩ (.int .i64 u')) ⟨g2, off2 + k * 10 + 2, none⟩ = some (.int .i64 t) := FK4.out 2 (by decide); have d3 : World.cell? (w3.setCell ⟨w2.heap.size, 6, none⟩ (.int .i64 u')) ⟨g2, off2 + k * 10 + 3, none⟩ = some (.int .i64 c) := FK4.out 3 (by decide); have d4 : World.cell? (w3.setCell ⟨w2.heap.size, 6, none⟩ (.int .i64 u')) ⟨g2, off2 + k * 10 + 4, none⟩ = some (.int .i64 p) := FK4.out 4 (by decide); have d5 : World.cell? (w3.setCell ⟨w2.heap.size, 6, none⟩ (.int .i64 u')) ⟨g2, off2 + k * 10 + 5, none⟩ = some (.int .i64 d) := FK4.out 5 (by decide); have d6 : World.cell? (w3.setCell ⟨w2.heap.size, 6, none⟩ (.int .i64 u')) ⟨g2, off2 + k * 10 + 6, none⟩ = some (.int .i64 u') := FK4.out 6 (by decide); have d7 : World.cell? (w3.setCell ⟨w2.heap.size, 6, none⟩ (.int .i64 u')) ⟨g2, off2 + k * 10 + 7, none⟩ = some (.int .i64 x) := FK4.out 7 (by decide); have d8 : World.cell? (w3.setCell ⟨w2.heap.size, 6, none⟩ (.int .i64 u')) ⟨g2, off2 + k * 10 + 8, none⟩ = some (.int .i64 b) := FK4.out 8 (by decide); have d9 : World.cell? (w3.setCell ⟨w2.heap.size, 6, none⟩ (.int .i64 u')) ⟨g2, off2 + k * 10 + 9, none⟩ = some (.int .i64 y) := FK4.out 9 (by decide); have c4 : World.cell? (w3.setCell ⟨w2.heap.size, 6, none⟩ (.int .i64 u')) ⟨g, off + k * 10 + 4, none⟩ = some (.int .i64 p) := FL4.out 4 (by decide); clear r9 k9 o9))
        go_quiet (fail)
        go_wp2
        go_roundw
        case rel => exact ⟨k + 1, by omega, by go_num, (ktr HK.out K4.out).drewN _⟩
        case measure => simp [intOf]; omega
      · have y2 : decide (o < n) = false := decide_eq_false hgt
        clear q5 q6 hgt
        go_wp2_with (first
          | (go_at_call 26; (with_reducible refine (OA.out _).mono ?_); rintro e w1 ⟨rfl, k1⟩; have K1 := Lib.hid k1; have FK1 := Lib.hid (FK.out.kpt K1.out); have d0 : World.cell? w1 ⟨g2, off2 + k * 10, none⟩ = some (.int .i64 i) := FK1.out 0 (by decide); have d1 : World.cell? w1 ⟨g2, off2 + k * 10 + 1, none⟩ = some (.int .i64 f) := FK1.out 1 (by decide); have d2 : World.cell? w1 ⟨g2, off2 + k * 10 + 2, none⟩ = some (.int .i64 t) := FK1.out 2 (by decide); have d3 : World.cell? w1 ⟨g2, off2 + k * 10 + 3, none⟩ = some (.int .i64 c) := FK1.out 3 (by decide); have d4 : World.cell? w1 ⟨g2, off2 + k * 10 + 4, none⟩ = some (.int .i64 p) := FK1.out 4 (by decide); have d5 : World.cell? w1 ⟨g2, off2 + k * 10 + 5, none⟩ = some (.int .i64 d) := FK1.out 5 (by decide); have d6 : World.cell? w1 ⟨g2, off2 + k * 10 + 6, none⟩ = some (.int .i64 u') := FK1.out 6 (by decide); have d7 : World.cell? w1 ⟨g2, off2 + k * 10 + 7, none⟩ = some (.int .i64 x) := FK1.out 7 (by decide); have d8 : World.cell? w1 ⟨g2, off2 + k * 10 + 8, none⟩ = some (.int .i64 b) := FK1.out 8 (by decide); have d9 : World.cell? w1 ⟨g2, off2 + k * 10 + 9, none⟩ = some (.int .i64 y) := FK1.out 9 (by decide); clear k1 OA)
          | (go_at_call 26; (with_reducible refine (OB.out _).mono ?_); rintro e w2 ⟨rfl, k1⟩; have K2 : Hid (Kpt wr w2) := Lib.hid (ktr K1.out k1); have FL2 := Lib.hid (FL.out.kpt K2.out); have c0 : World.cell? w2 ⟨g, off + k * 10, none⟩ = some (.int .i64 i) := FL2.out 0 (by decide); have c1 : World.cell? w2 ⟨g, off + k * 10 + 1, none⟩ = some (.int .i64 f) := FL2.out 1 (by decide); have c2 : World.cell? w2 ⟨g, off + k * 10 + 2, none⟩ = some (.int .i64 t) := FL2.out 2 (by decide); have c3 : World.cell? w2 ⟨g, off + k * 10 + 3, none⟩ = some (.int .i64 c) := FL2.out 3 (by decide); have c4 : World.cell? w2 ⟨g, off + k * 10 + 4, none⟩ = some (.int .i64 p) := FL2.out 4 (by decide); have c5 : World.cell? w2 ⟨g, off + k * 10 + 5, none⟩ = some (.int .i64 d) := FL2.out 5 (by decide); have c6 : World.cell? w2 ⟨g, off + k * 10 + 6, none⟩ = some (.int .i64 u) := FL2.out 6 (by decide); have c7 : World.cell? w2 ⟨g, off + k * 10 + 7, none⟩ = some (.int .i64 x) := FL2.out 7 (by decide); have c8 : World.cell? w2 ⟨g, off + k * 10 + 8, none⟩ = some (.int .i64 b) := FL2.out 8 (by decide); have c9 : World.cell? w2 ⟨g, off + k * 10 + 9, none⟩ = some (.int .i64 y) := FL2.out 9 (by decide); have ZB : Hid (Blk (w2.alloc (.cells #[.int .i64 0, .int .i64 0, .int .i64 0, .int .i64 0, .int .i64 0, .int .i64 0, .int .i64 0, .int .i64 0, .int .i64 0, .int .i64 0] 49)) w2.heap.size #[.int .i64 0, .int .i64 0, .int .i64 0, .int .i64 0, .int .i64 0, .int .i64 0, .int .i64 0, .int .i64 0, .int .i64 0, .int .i64 0] 49) := Blk.made _ _ _; have KZ : Hid (Kpt w2 (w2.alloc (.cells #[.int .i64 0, .int .i64 0, .int .i64 0, .int .i64 0, .int .i64 0, .int .i64 0, .int .i64 0, .int .i64 0, .int .i64 0, .int .i64 0] 49))) := (Kpt.refl w2).alloc _; clear k1 OB)
          | (refine wp_storeF rfl (.tmp 12) (.tmp 65) rfl w2.heap.size _ _ rfl rfl ZB.out rfl rfl (by simp [Value.oneCell']) ?_; intro w3 r9 k9 o9; have R9 := Lib.hid r9; have K3 : Hid (Kpt wr w3) := Lib.hid (ktr K2.out (k9 _ _ KZ.out (Nat.le_refl _))); have hs2 : wr.heap.size ≤ w2.heap.size := Below.size K2.out; have K4 : Hid (Kpt wr (w3.setCell ⟨w2.heap.size, 6, none⟩ (.int .i64 u'))) := K3.out.setCell (p := ⟨w2.heap.size, 6, none⟩) hs2 _; have FK3 := Lib.hid (FK.out.kpt K3.out); have e6 : World.cell? w3 ⟨g2, off2 + k * 10 + 6, none⟩ = some (.int .i64 u') := FK3.out 6 (by decide); have f6 : World.frozen? w3 ⟨w2.heap.size, 6, none⟩ = false := R9.out.frozen 6; have v6 : World.cell? w3 ⟨w2.heap.size, 6, none⟩ = some (.int .i64 u) := R9.out.cell 6; have FK4 := Lib.hid (FK.out.kpt K4.out); have FL4 := Lib.hid (FL.out.kpt K4.out); have B4 := Lib.hid (HB.out.kpt K4.out); have z0 : World.cell? (w3.setCell ⟨w2.heap.size, 6, none⟩ (.int .i64 u')) ⟨w.heap.size, 0, none⟩ = some (.int .i64 P) := B4.out.cell 0; have RP := Lib.hid (R9.out.put 6 (.int .i64 u')); have s0 : World.cell? (w3.setCell ⟨w2.heap.size, 6, none⟩ (.int .i64 u')) ⟨w2.heap.size, 0, none⟩ = some (.int .i64 i) := RP.out.cell 0; have s1 : World.cell? (w3.setCell ⟨w2.heap.size, 6, none⟩ (.int .i64 u')) ⟨w2.heap.size, 1, none⟩ = some (.int .i64 f) := RP.out.cell 1; have s2 : World.cell? (w3.setCell ⟨w2.heap.size, 6, none⟩ (.int .i64 u')) ⟨w2.heap.size, 2, none⟩ = some (.int .i64 t) := RP.out.cell 2; have s3 : World.cell? (w3.setCell ⟨w2.heap.size, 6, none⟩ (.int .i64 u')) ⟨w2.heap.size, 3, none⟩ = some (.int .i64 c) := RP.out.cell 3; have s4 : World.cell? (w3.setCell ⟨w2.heap.size, 6, none⟩ (.int .i64 u')) ⟨w2.heap.size, 4, none⟩ = some (.int .i64 p) := RP.out.cell 4; have s5 : World.cell? (w3.setCell ⟨w2.heap.size, 6, none⟩ (.int .i64 u')) ⟨w2.heap.size, 5, none⟩ = some (.int .i64 d) := RP.out.cell 5; have s6 : World.cell? (w3.setCell ⟨w2.heap.size, 6, none⟩ (.int .i64 u')) ⟨w2.heap.size, 6, none⟩ = some (.int .i64 u') := RP.out.cell 6; have s7 : World.cell? (w3.setCell ⟨w2.heap.size, 6, none⟩ (.int .i64 u')) ⟨w2.heap.size, 7, none⟩ = some (.int .i64 x) := RP.out.cell 7; have s8 : World.cell? (w3.setCell ⟨w2.heap.size, 6, none⟩ (.int .i64 u')) ⟨w2.heap.size, 8, none⟩ = some (.int .i64 b) := RP.out.cell 8; have s9 : World.cell? (w3.setCell ⟨w2.heap.size, 6, none⟩ (.int .i64 u')) ⟨w2.heap.size, 9, none⟩ = some (.int .i64 y) := RP.out.cell 9; have d0 : World.cell? (w3.setCell ⟨w2.heap.size, 6, none⟩ (.int .i64 u')) ⟨g2, off2 + k * 10, none⟩ = some (.int .i64 i) := FK4.out 0 (by decide); have d1 : World.cell? (w3.setCell ⟨w2.heap.size, 6, none⟩ (.int .i64 u')) ⟨g2, off2 + k * 10 + 1, none⟩ = some (.int .i64 f) := FK4.out 1 (by decide); have d2 : World.cell? (w3.setCell ⟨w2.heap.size, 6, none⟩ (.int .i64 u')) ⟨g2, off2 + k * 10 + 2, none⟩ = some (.int .i64 t) := FK4.out 2 (by decide); have d3 : World.cell? (w3.setCell ⟨w2.heap.size, 6, none⟩ (.int .i64 u')) ⟨g2, off2 + k * 10 + 3, none⟩ = some (.int .i64 c) := FK4.out 3 (by decide); have d4 : World.cell? (w3.setCell ⟨w2.heap.size, 6, none⟩ (.int .i64 u')) ⟨g2, off2 + k * 10 + 4, none⟩ = some (.int .i64 p) := FK4.out 4 (by decide); have d5 : World.cell? (w3.setCell ⟨w2.heap.size, 6, none⟩ (.int .i64 u')) ⟨g2, off2 + k * 10 + 5, none⟩ = some (.int .i64 d) := FK4.out 5 (by decide); have d6 : World.cell? (w3.setCell ⟨w2.heap.size, 6, none⟩ (.int .i64 u')) ⟨g2, off2 + k * 10 + 6, none⟩ = some (.int .i64 u') := FK4.out 6 (by decide); have d7 : World.cell? (w3.setCell ⟨w2.heap.size, 6, none⟩ (.int .i64 u')) ⟨g2, off2 + k * 10 + 7, none⟩ = some (.int .i64 x) := FK4.out 7 (by decide); have d8 : World.cell? (w3.setCell ⟨w2.heap.size, 6, none⟩ (.int .i64 u')) ⟨g2, off2 + k * 10 + 8, none⟩ = some (.int .i64 b) := FK4.out 8 (by decide); have d9 : World.cell? (w3.setCell ⟨w2.heap.size, 6, none⟩ (.int .i64 u')) ⟨g2, off2 + k * 10 + 9, none⟩ = some (.int .i64 y) := FK4.out 9 (by decide); have c4 : World.cell? (w3.setCell ⟨w2.heap.size, 6, none⟩ (.int .i64 u')) ⟨g, off + k * 10 + 4, none⟩ = some (.int .i64 p) := FL4.out 4 (by decide); clear r9 k9 o9))
        go_quiet (fail)
        go_wp2
        go_roundw
        case rel => exact ⟨k + 1, by omega, by go_num, (ktr HK.out K4.out).drewN _⟩
        case measure => simp [intOf]; omega
    · obtain rfl : k = fs.length := by omega
      go_wp2
      go_ret
      exact ⟨rfl, KW.out⟩
theorem cgrow_v (P C G O : Int) (v : Value) (fs : List (List Int)) (w : World) (hr : ReadsF w v fs) (hv : ∃ a n cap, v = .slice a n cap ∧ (a = none → cap = 0)) : Calls Try.prog 6 #[.agg #[.int .i64 P, .int .i64 C, .int .i64 G, .int .i64 O], v] w fun e w' => e = .returned (.bool true) ∧ Kpt w w' := by
  obtain ⟨a, n, cap, rfl, hn⟩ := hv
  have e : n = fs.length := by obtain ⟨_, _, e, -⟩ := hr; injection e
  subst e
  by_cases h : cwE P C G O fs = 0
  · by_cases hg : GOk G O fs (hit P fs fs.length)
    · refine cgr_ok P C G O a cap fs (gro G O fs (hit P fs fs.length)) w hr (gro_len _ _ _ _) (gro_checks h hg) (fun w' k => ?_) (fun k hk => ?_)
      · refine (grow_ok P C G O a cap fs w' (hr.kpt k) hn h).mono ?_
        rintro e w'' ⟨hk, ⟨gv, rfl, ho, -⟩ | ⟨rfl, hx⟩⟩
        · obtain ⟨a2, n2, c2, rfl, h2⟩ := ho.form
          obtain rfl : n2 = fs.length := h2.trans (gro_len _ _ _ _)
          refine ⟨a2, c2, rfl, ho.readsF (fun l hl => ?_), hk⟩
          obtain ⟨j, a1, rfl⟩ := List.mem_iff_getElem.1 hl
          rw [← getF_el a1]
          exact flB_of (gro_fail h hg j (by rw [gro_len] at a1; exact a1))
        · exact absurd hx (fun ⟨pre, x, a1, a2⟩ => by have := hg pre x a1; omega)
      · obtain ⟨i, f, t, c, p, d, u, x, b, y, u', -, q⟩ := gro_place h hg k hk
        exact ⟨i, f, t, c, p, d, u, x, b, y, u', q⟩
    · refine cgr_bad P C G O 8 _ w (by decide) (fun w' k => ?_)
      refine (grow_ok P C G O a cap fs w' (hr.kpt k) hn h).mono ?_
      rintro e w'' ⟨hk, ⟨gv, rfl, ho, hg'⟩ | ⟨rfl, hx⟩⟩
      · exact absurd hg' hg
      · exact ⟨rfl, hk⟩
  · exact cgr_bad P C G O _ _ w h (fun w' k => grow_bad P C G O _ fs w' (hr.kpt k) h)

end Go.Proofs.Ytklaojahocjeiaa
