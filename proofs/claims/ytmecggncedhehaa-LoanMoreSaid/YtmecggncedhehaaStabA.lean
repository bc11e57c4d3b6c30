/-
  What swapRangeCmpFunc and rotateCmpFunc of package slices do with a row of ints of the call's own.
-/
import Derived.Test.YtmecggncedhehaaStabMath3
import Derived.Test.YtmecggncedhehaaRow
import Derived.BigRegion
namespace Go.Proofs.Ytmecggncedhehaa
open Go.RowKit
set_option linter.unusedVariables false

/-- block blk is the row D now; of the blocks ahead of it nothing has turned -/
structure SI (w : World) (blk : Nat) (D : List Int) (w' : World) : Prop where
  row : Row w' blk D
  bel : Below blk w w'
theorem SI.refl {w : World} {blk : Nat} {D : List Int} (h : Row w blk D) : SI w blk D w := ⟨h, Below.refl _ _⟩
theorem SI.tr {w w1 w2 : World} {blk : Nat} {D E : List Int} (h : SI w blk D w1) (g : SI w1 blk E w2) : SI w blk E w2 := ⟨g.row, h.bel.trans g.bel⟩
theorem SI.drewN {w w' : World} {blk : Nat} {D : List Int} (h : SI w blk D w') (n : Nat) : SI w blk D (w'.drewN n) := ⟨h.row.block rfl, h.bel.trans ⟨rfl, rfl, rfl, by simp [World.drewN], fun k hk => rfl⟩⟩
theorem SI.put {w w' : World} {blk : Nat} {D : List Int} (h : SI w blk D w') (j : Nat) (z : Int) : SI w blk (D.set j z) (w'.setCell ⟨blk, j, none⟩ (.int .i64 z)) := ⟨h.row.put j z, h.bel.setCell (Nat.le_refl _) _⟩
theorem SI.swp {w w' : World} {blk : Nat} {D : List Int} (h : SI w blk D w') (i j : Nat) {x y : Int} (hx : D.getD i 0 = x) (hy : D.getD j 0 = y) : SI w blk (swp2 D i j) ((w'.setCell ⟨blk, i, none⟩ (.int .i64 y)).setCell ⟨blk, j, none⟩ (.int .i64 x)) := by
  subst hx hy
  exact (h.put i _).put j _
theorem ne_cell {w : World} {blk p q : Nat} {u v : Value} (h : p ≠ q) (hc : w.cell? ⟨blk, q, none⟩ = some v) : (w.setCell ⟨blk, p, none⟩ u).cell? ⟨blk, q, none⟩ = some v :=
  (World.cell?_setCell_other w _ _ _ (by intro e; injection e; omega)).trans hc

set_option maxRecDepth 100000 in
set_option maxHeartbeats 4000000 in
theorem swr_run (blk cap a b n : Nat) (D : List Int) (fv : Value) (w : World) (hr : Row w blk D) (hab : a + n ≤ b) (hb : b + n ≤ D.length) (hl : D.length ≤ 1000000) :
    Calls Try.prog 155 #[.slice (some ⟨blk, 0, none⟩) D.length cap, .int .i64 a, .int .i64 b, .int .i64 n, fv] w fun e w' => e = .returned (.tuple #[]) ∧ SI w blk (swr D a b n) w' := by
  have H0 := Lib.hid hr
  clear hr
  go_enter Try.func155, Try.ntmps155
  go_wp2
  go_loopw [10] (fun i wr => ∃ k : Nat, k ≤ n ∧ i = .int .i64 k ∧ Hid (SI w blk (swr D a b k) wr)) (fun i _ => n - (intOf i).toNat)
  case atStart => exact ⟨0, Nat.zero_le _, rfl, SI.refl H0.out⟩
  case round =>
    obtain ⟨k, hk, rfl, HS⟩ := hrel
    by_cases hlt : k < n
    · obtain ⟨p, hp⟩ : ∃ p, p = a + k := ⟨_, rfl⟩
      obtain ⟨q, hq⟩ : ∃ q, q = b + k := ⟨_, rfl⟩
      have hlen : (swr D a b k).length = D.length := swr_len D a b k
      have hn : swr D a b (k + 1) = swp2 (swr D a b k) p q := by rw [hp, hq]; rfl
      have HN := Lib.hid hn
      generalize swr D a b k = E at HS hlen HN
      have c1 := HS.out.row.cell (j := p) (by omega)
      have c2 := HS.out.row.cell (j := q) (by omega)
      have f1 := HS.out.row.frozen p
      have f2 := HS.out.row.frozen q
      obtain ⟨x, hx⟩ : ∃ x, E.getD p 0 = x := ⟨_, rfl⟩
      obtain ⟨y, hy⟩ : ∃ y, E.getD q 0 = y := ⟨_, rfl⟩
      rw [hx] at c1
      rw [hy] at c2
      have HX := Lib.hid hx
      have HY := Lib.hid hy
      have e1 : ((a : Int) + (k : Int)).toNat = p := by omega
      have e2 : ((b : Int) + (k : Int)).toNat = q := by omega
      have l1 : (a : Int) + (k : Int) < (D.length : Int) := by omega
      have l2 : (b : Int) + (k : Int) < (D.length : Int) := by omega
      have z1 : (0 : Int) ≤ (a : Int) + (k : Int) := by omega
      have z2 : (0 : Int) ≤ (b : Int) + (k : Int) := by omega
      have w1 : IntKind.i64.wrap ((a : Int) + (k : Int)) = (a : Int) + (k : Int) := by rw [IntKind.wrap_i64]; omega
      have w2 : IntKind.i64.wrap ((b : Int) + (k : Int)) = (b : Int) + (k : Int) := by rw [IntKind.wrap_i64]; omega
      have c3 : (wr.setCell ⟨blk, p, none⟩ (.int .i64 y)).cell? ⟨blk, q, none⟩ = some (.int .i64 y) := ne_cell (by omega) c2
      clear hx hy hn hlen hp hq
      go_wp2
      go_region
      have HS2 : Hid (SI w blk (swr D a b (k + 1)) (((wr.setCell ⟨blk, p, none⟩ (.int .i64 y)).setCell ⟨blk, q, none⟩ (.int .i64 x)).drew)) := by
        unfold Hid; rw [HN.out]; exact (HS.out.swp p q HX.out HY.out).drewN 1
      clear c1 c2 c3 f1 f2 HS
      generalize (((wr.setCell ⟨blk, p, none⟩ (.int .i64 y)).setCell ⟨blk, q, none⟩ (.int .i64 x)).drew) = W2 at HS2 ⊢
      go_wp2
      go_roundw
      case rel => exact ⟨k + 1, by omega, by go_num, HS2.out⟩
      case measure => simp [intOf]; omega
    · obtain rfl : k = n := by omega
      go_wp2
      go_end0
      exact ⟨rfl, HS.out⟩

set_option maxRecDepth 100000 in
set_option maxHeartbeats 4000000 in
theorem rot_run (blk cap a m b : Nat) (A U V B : List Int) (fv : Value) (w : World) (hr : Row w blk (A ++ U ++ V ++ B)) (ha : A.length = a) (hm : a + U.length = m) (hb : m + V.length = b) (hu : 0 < U.length) (hv : 0 < V.length) (hl : (A ++ U ++ V ++ B).length ≤ 1000000) :
    Calls Try.prog 154 #[.slice (some ⟨blk, 0, none⟩) (A ++ U ++ V ++ B).length cap, .int .i64 a, .int .i64 m, .int .i64 b, fv] w fun e w' => e = .returned (.tuple #[]) ∧ SI w blk (A ++ V ++ U ++ B) w' := by
  obtain ⟨T, hT⟩ : ∃ T, T = A ++ V ++ U ++ B := ⟨_, rfl⟩
  obtain ⟨D, hD⟩ : ∃ D, D = A ++ U ++ V ++ B := ⟨_, rfl⟩
  have R0 : RotAt T D m (m - a) (b - m) := ⟨A, U, V, B, hD, by omega, by omega, by omega, hT.symm⟩
  have dl : D.length = (A ++ U ++ V ++ B).length := by rw [hD]
  have dl2 : b ≤ D.length := by rw [hD]; simp; omega
  rw [← hD] at hr hl ⊢
  rw [← hT]
  have RR := Lib.hid R0
  have H0 := Lib.hid hr
  have hma : a < m := by omega
  have hbm : m < b := by omega
  clear hr hT hD R0 dl ha hm hb hu hv
  have SW : Hid (∀ (W : World) (E : List Int) (x y k : Nat), Row W blk E → x + k ≤ y → y + k ≤ E.length → E.length = D.length → Calls Try.prog 155 #[.slice (some ⟨blk, 0, none⟩) D.length cap, .int .i64 x, .int .i64 y, .int .i64 k, fv] W fun e w' => e = .returned (.tuple #[]) ∧ SI W blk (swr E x y k) w') := fun W E x y k h1 h2 h3 h4 => by
    have := swr_run blk cap x y k E fv W h1 h2 h3 (by omega)
    rw [h4] at this
    exact this
  have e1 : ((m : Int) - (a : Int)) = ((m - a : Nat) : Int) := by omega
  have e2 : ((b : Int) - (m : Int)) = ((b - m : Nat) : Int) := by omega
  go_enter Try.func154, Try.ntmps154
  go_wp2
  go_loopw [10, 11] (fun s t wr => ∃ i j : Nat, s = .int .i64 i ∧ t = .int .i64 j ∧ 0 < i ∧ 0 < j ∧ i ≤ m ∧ m + j ≤ D.length ∧ Hid (∃ E : List Int, SI w blk E wr ∧ E.length = D.length ∧ RotAt T E m i j)) (fun s t _ => (intOf s).toNat + (intOf t).toNat)
  case atStart => exact ⟨m - a, b - m, by rw [← e1], by rw [← e2], by omega, by omega, by omega, by omega, ⟨D, SI.refl H0.out, rfl, RR.out⟩⟩
  case round =>
    obtain ⟨i, j, rfl, rfl, hi, hj, him, hjm, HE⟩ := hrel
    obtain ⟨E, hs, hel, hrot⟩ := HE.out
    have HS := Lib.hid hs
    have HR := Lib.hid hrot
    clear HE hs hrot
    have x1 : ((m : Int) - (i : Int)) = ((m - i : Nat) : Int) := by omega
    have X1 := Lib.hid x1
    by_cases hij : i = j
    · subst hij
      have C := SW.out wr E (m - i) m i HS.out.row (by omega) (by omega) hel
      rw [← x1, HR.out.fin] at C
      have CC := Lib.hid C
      clear C hel x1
      go_wp2_with (go_at_call 155; (with_reducible refine CC.out.mono ?_); rintro e w1 ⟨rfl, s1⟩; have S1 := Lib.hid s1; clear s1)
      go_end0
      exact ⟨rfl, HS.out.tr S1.out⟩
    · by_cases hgt : j < i
      · have C := SW.out wr E (m - i) m j HS.out.row (by omega) (by omega) hel
        rw [← x1] at C
        have CC := Lib.hid C
        have hel2 : (swr E (m - i) m j).length = D.length := (swr_len _ _ _ _).trans hel
        have HR2 := Lib.hid (HR.out.gt hgt)
        have hz : (j : Int) < (i : Int) := by omega
        have hne : ((i : Int) != (j : Int)) = true := bne_iff_ne.2 (by omega)
        clear C hel x1
        go_wp2_with (go_at_call 155; (with_reducible refine CC.out.mono ?_); rintro e w1 ⟨rfl, s1⟩; have S1 := Lib.hid s1; clear s1)
        go_roundw
        case rel => exact ⟨i - j, j, by rw [show (((i - j : Nat) : Int)) = (i : Int) - (j : Int) by omega], rfl, by omega, hj, by omega, hjm, ⟨_, HS.out.tr S1.out, hel2, HR2.out⟩⟩
        case measure => simp [intOf]; omega
      · have x2 : ((m : Int) + (j : Int) - (i : Int)) = ((m + j - i : Nat) : Int) := by omega
        have C := SW.out wr E (m - i) (m + j - i) i HS.out.row (by omega) (by omega) hel
        rw [← x1, ← x2] at C
        have CC := Lib.hid C
        have hel2 : (swr E (m - i) (m + j - i) i).length = D.length := (swr_len _ _ _ _).trans hel
        have HR2 := Lib.hid (HR.out.lt (by omega))
        have hz : ¬ (j : Int) < (i : Int) := by omega
        have hne : ((i : Int) != (j : Int)) = true := bne_iff_ne.2 (by omega)
        clear C hel x1 x2
        go_wp2_with (go_at_call 155; (with_reducible refine CC.out.mono ?_); rintro e w1 ⟨rfl, s1⟩; have S1 := Lib.hid s1; clear s1)
        go_roundw
        case rel => exact ⟨i, j - i, rfl, by rw [show (((j - i : Nat) : Int)) = (j : Int) - (i : Int) by omega], hi, by omega, him, by omega, ⟨_, HS.out.tr S1.out, hel2, HR2.out⟩⟩
        case measure => simp [intOf]; omega

end Go.Proofs.Ytmecggncedhehaa
