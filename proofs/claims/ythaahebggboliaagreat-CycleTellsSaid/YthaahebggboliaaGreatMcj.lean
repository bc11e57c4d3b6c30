/-
  Merged: CycJ, CycK.
-/
import Derived.Test.YthaahebggboliaaGreatMcg
-- CycJ
namespace Go.Proofs.YthaahebggboliaaGreat
open Go.RowKit Go.Sort Go.Lib
set_option linter.unusedVariables false

theorem idx_bd (id : Int) : ∀ (fs : List (List Int)) (j : Nat), idxF id fs j < 0 ∨ ((j : Int) ≤ idxF id fs j ∧ idxF id fs j < (j : Int) + fs.length)
  | [], j => .inl (by unfold idxF; decide)
  | l :: fs, j => by
    unfold idxF
    split
    · exact .inr ⟨Int.le_refl _, by rw [List.length_cons]; omega⟩
    · rcases idx_bd id fs (j + 1) with h | h
      · exact .inl h
      · exact .inr ⟨by omega, by rw [List.length_cons]; omega⟩
/-- the error of so many units taken from a fail -/
def tkL (l : List Int) (n : Int) : Int := takeE (failEL l) (opL l) n
/-- a fail of which so many units have been delivered; the postings of it -/
def delF (l : List Int) (n : Int) : List Int := [l.getD 0 0, l.getD 1 0, l.getD 2 0, l.getD 3 0, l.getD 4 0, l.getD 5 0, l.getD 6 0, l.getD 7 0 + n, l.getD 8 0, l.getD 9 0]
def delL (l : List Int) (n : Int) : List (Int × Int × Int) := [(l.getD 1 0, l.getD 4 0, -n), (l.getD 2 0, l.getD 4 0, n)]
/-- the place of a fail with an Id; the fail -/
def ixF (id : Int) (fs : List (List Int)) : Nat := (idxF id fs 0).toNat
def atF (id : Int) (fs : List (List Int)) : List Int := fs.getD (ixF id fs) []
/-- the error of a delivery -/
def dlE (id n : Int) (fs : List (List Int)) (b : List (Int × Int × Int)) : Int := if idxF id fs 0 < 0 then 5 else (if tkL (atF id fs) n = 0 then cpoE b (delL (atF id fs) n) else tkL (atF id fs) n)
theorem tk_0 {l : List Int} {n : Int} (h : tkL l n = 0) : failEL l = 0 ∧ 1 ≤ n ∧ n ≤ 1073741824 ∧ n ≤ opL l := by
  unfold tkL takeE at h
  by_cases h1 : failEL l = 0
  · rw [if_pos h1] at h
    by_cases h2 : n < 1 ∨ 1073741824 < n
    · rw [if_pos h2] at h; cases h
    · rw [if_neg h2] at h
      by_cases h3 : opL l = 0
      · rw [if_pos h3] at h; cases h
      · rw [if_neg h3] at h
        by_cases h4 : opL l < n
        · rw [if_pos h4] at h; cases h
        · exact ⟨h1, by omega, by omega, by omega⟩
  · rw [if_neg h1] at h; exact absurd h h1
theorem delL_pt {l : List Int} {n : Int} (h : tkL l n = 0) : ∀ q ∈ delL l n, ptB q = true := by
  obtain ⟨h1, h2, h3, h4⟩ := tk_0 h
  have fb := fail_bd h1
  intro q hq
  unfold delL at hq
  rcases List.mem_cons.1 hq with rfl | hq
  · exact pt_mk (by simp only; omega)
  · rw [List.mem_singleton] at hq
    subst hq
    exact pt_mk (by simp only; omega)
theorem two_postU {w : World} {g : Nat} {f t u m n : Int} (B : Blk w g #[.int .i64 f, .int .i64 u, .int .i64 m, .int .i64 t, .int .i64 u, .int .i64 n] 55) (h : InP [(f, u, m), (t, u, n)]) : ReadsP w (.slice (some ⟨g, 0, none⟩) 2 2) [(f, u, m), (t, u, n)] := by
  refine ⟨_, 2, rfl, (fun e => by cases e), by unfold maxLen; simp, h, fun j hj => ⟨g, 0, rfl, ?_⟩⟩
  rcases (show j = 0 ∨ j = 1 by simp at hj; omega) with rfl | rfl
  · exact ⟨B.cell 0, B.cell 1, B.cell 2⟩
  · exact ⟨B.cell 3, B.cell 4, B.cell 5⟩

set_option maxRecDepth 100000 in
set_option maxHeartbeats 8000000 in
theorem deliver_run (base g : Nat) (T id n : Int) (fv bv pv : Value) (fs : List (List Int)) (b p : List (Int × Int × Int)) (w : World) (hC : ClerkIs w base g T fv bv pv fs b p) (hbp : ∀ x ∈ b, ptB x = true) (hp : p.length ≤ 99000) (hfb : ∀ l ∈ fs, FlB l) (hck : checksE fs = 0) :
    Calls Tryz.prog 60 #[.pointer (some ⟨g, 0, none⟩), .int .i64 id, .int .i64 n] w (CmRes w base g (dlE id n fs b) T fv (fs.set (ixF id fs) (delF (atF id fs) n)) (cpoB b (delL (atF id fs) n)) (p ++ cpoP b (delL (atF id fs) n))) := by
  have hbase : base ≤ w.heap.size := Nat.le_of_lt (Nat.lt_of_le_of_lt hC.ge hC.blk.lt)
  have HB := Lib.hid hbase
  have FR := find_run fv fs id w (hC.of.readsF hfb)
  have s1 : w.cell? ⟨g, 1, none⟩ = some fv := hC.blk.cell 1
  have HC := Lib.hid hC
  have DE : Hid (dlE id n fs b = if idxF id fs 0 < 0 then 5 else (if tkL (atF id fs) n = 0 then cpoE b (delL (atF id fs) n) else tkL (atF id fs) n)) := rfl
  obtain ⟨af, nf, capf, rfl, hnf⟩ := OwnsN.form hC.of
  by_cases h1 : idxF id fs 0 < 0
  · have de := DE.out
    rw [if_pos h1] at de
    rw [de]
    have FI := Lib.hid (FR.2.1 hck h1)
    clear de DE FR h1 hC hbase hck hfb hbp hp
    go_enter Tryz.func60, Tryz.ntmps60
    go_wp2_with (go_at_call 36; (with_reducible refine FI.out.mono ?_); rintro x w1 ⟨rfl, kk⟩; have K1 := Lib.hid kk; clear kk)
    go_ret
    exact ⟨rfl, fun h => absurd h (by decide), K1.out.mono HB.out, Kpt.y K1.out⟩
  · have de := DE.out
    rw [if_neg h1] at de
    have FI := FR.2.2 hck h1
    have ib := (idx_bd id fs 0).resolve_left h1
    have hx : idxF id fs 0 = ((ixF id fs : Nat) : Int) := by unfold ixF; omega
    have hlt : ixF id fs < fs.length := by omega
    rw [hx] at FI
    have FI := Lib.hid FI
    obtain ⟨gf, haf, hcf⟩ : ∃ gf, af = some ⟨gf, 0, none⟩ ∧ ∀ j, j < 10 → w.cell? ⟨gf, ixF id fs * 10 + j, none⟩ = some (.int .i64 ((atF id fs).getD j 0)) := by
      obtain ⟨a', cap', e, -, hc⟩ := HC.out.of.cells
      obtain ⟨gf, e', h'⟩ := hc (ixF id fs) hlt
      simp only [Value.slice.injEq] at e
      exact ⟨gf, e.1.trans e', h'⟩
    subst haf
    have i1 : ((ixF id fs : Nat) : Int) < (nf : Int) := by have := hnf.out; omega
    have HLT := Lib.hid hlt
    obtain ⟨c0, c1, c2, c3, c4, c5, c6, c7, c8, c9⟩ := fl_at hcf
    have i0 : (0 : Int) ≤ ((ixF id fs : Nat) : Int) := by omega
    have FD := Lib.hid (fun h0 w' => deliver_bad ((atF id fs).getD 0 0) ((atF id fs).getD 1 0) ((atF id fs).getD 2 0) ((atF id fs).getD 3 0) ((atF id fs).getD 4 0) ((atF id fs).getD 5 0) ((atF id fs).getD 6 0) ((atF id fs).getD 7 0) ((atF id fs).getD 8 0) ((atF id fs).getD 9 0) n (tkL (atF id fs) n) w' rfl h0)
    have FO := Lib.hid (fun (h0 : tkL (atF id fs) n = 0) w' => deliver_ok ((atF id fs).getD 0 0) ((atF id fs).getD 1 0) ((atF id fs).getD 2 0) ((atF id fs).getD 3 0) ((atF id fs).getD 4 0) ((atF id fs).getD 5 0) ((atF id fs).getD 6 0) ((atF id fs).getD 7 0) ((atF id fs).getD 8 0) ((atF id fs).getD 9 0) n w' h0 (fail_bd (tk_0 h0).1).2.1.1 (by have := fail_bd (tk_0 h0).1; omega) (tk_0 h0).2.1 (tk_0 h0).2.2.1)
    have RW : Hid (rowN 10 (delF (atF id fs) n) = [.int .i64 ((atF id fs).getD 0 0), .int .i64 ((atF id fs).getD 1 0), .int .i64 ((atF id fs).getD 2 0), .int .i64 ((atF id fs).getD 3 0), .int .i64 ((atF id fs).getD 4 0), .int .i64 ((atF id fs).getD 5 0), .int .i64 ((atF id fs).getD 6 0), .int .i64 ((atF id fs).getD 7 0 + n), .int .i64 ((atF id fs).getD 8 0), .int .i64 ((atF id fs).getD 9 0)]) := rfl
    have DL : Hid (delL (atF id fs) n = [((atF id fs).getD 1 0, (atF id fs).getD 4 0, -n), ((atF id fs).getD 2 0, (atF id fs).getD 4 0, n)]) := rfl
    have HPL := Lib.hid hp
    have HBP := Lib.hid hbp
    clear hC hbase hck hfb hbp hp hlt hcf hx ib h1 FR
    by_cases h2 : tkL (atF id fs) n = 0
    · rw [if_pos h2] at de
      rw [de]
      have FO := Lib.hid (FO.out h2)
      have DP : Hid (InP (delL (atF id fs) n)) := inP_of (delL_pt h2)
      have nb := (tk_0 h2).2
      have nb1 := nb.1
      have nb2 := nb.2.1
      have mn : IntKind.i64.wrap (-n) = -n := IntWalk.i64_in _ (by omega)
      clear FD h2 de DE nb
      generalize atF id fs = l at *
      generalize ixF id fs = k at *
      generalize l.getD 0 0 = z0 at *
      generalize l.getD 1 0 = z1 at *
      generalize l.getD 2 0 = z2 at *
      generalize l.getD 3 0 = z3 at *
      generalize l.getD 4 0 = z4 at *
      generalize l.getD 5 0 = z5 at *
      generalize l.getD 6 0 = z6 at *
      generalize l.getD 7 0 = z7 at *
      generalize l.getD 8 0 = z8 at *
      generalize l.getD 9 0 = z9 at *
      go_enter Tryz.func60, Tryz.ntmps60
      go_upto_region 7 with (first
        | (go_at_call 36; (with_reducible refine FI.out.mono ?_); rintro x w1 ⟨rfl, kk⟩; have K1 := Lib.hid kk; have s1 : World.cell? w1 ⟨g, 1, none⟩ = some (.slice (some ⟨gf, 0, none⟩) nf capf) := kk.cell s1; have c0 : World.cell? w1 ⟨gf, k * 10, none⟩ = some (.int .i64 z0) := kk.cell c0; have c1 : World.cell? w1 ⟨gf, k * 10 + 1, none⟩ = some (.int .i64 z1) := kk.cell c1; have c2 : World.cell? w1 ⟨gf, k * 10 + 2, none⟩ = some (.int .i64 z2) := kk.cell c2; have c3 : World.cell? w1 ⟨gf, k * 10 + 3, none⟩ = some (.int .i64 z3) := kk.cell c3; have c4 : World.cell? w1 ⟨gf, k * 10 + 4, none⟩ = some (.int .i64 z4) := kk.cell c4; have c5 : World.cell? w1 ⟨gf, k * 10 + 5, none⟩ = some (.int .i64 z5) := kk.cell c5; have c6 : World.cell? w1 ⟨gf, k * 10 + 6, none⟩ = some (.int .i64 z6) := kk.cell c6; have c7 : World.cell? w1 ⟨gf, k * 10 + 7, none⟩ = some (.int .i64 z7) := kk.cell c7; have c8 : World.cell? w1 ⟨gf, k * 10 + 8, none⟩ = some (.int .i64 z8) := kk.cell c8; have c9 : World.cell? w1 ⟨gf, k * 10 + 9, none⟩ = some (.int .i64 z9) := kk.cell c9; clear kk)
        | (go_at_call 76; (with_reducible refine (FO.out _).mono ?_); rintro x w2 ⟨rfl, kk⟩; have K2 := Lib.hid (ktr K1.out kk); have K12 := Lib.hid kk; clear kk))
      have K3 : Hid (Kpt w (w2.alloc (.cells #[.int .i64 z0, .int .i64 z1, .int .i64 z2, .int .i64 z3, .int .i64 z4, .int .i64 z5, .int .i64 z6, .int .i64 (z7 + n), .int .i64 z8, .int .i64 z9] 42))) := K2.out.alloc _
      have R3 : Hid (Blk (w2.alloc (.cells #[.int .i64 z0, .int .i64 z1, .int .i64 z2, .int .i64 z3, .int .i64 z4, .int .i64 z5, .int .i64 z6, .int .i64 (z7 + n), .int .i64 z8, .int .i64 z9] 42)) w2.heap.size #[.int .i64 z0, .int .i64 z1, .int .i64 z2, .int .i64 z3, .int .i64 z4, .int .i64 z5, .int .i64 z6, .int .i64 (z7 + n), .int .i64 z8, .int .i64 z9] 42) := Blk.made _ _ _
      have K13 : Hid (Kpt w1 (w2.alloc (.cells #[.int .i64 z0, .int .i64 z1, .int .i64 z2, .int .i64 z3, .int .i64 z4, .int .i64 z5, .int .i64 z6, .int .i64 (z7 + n), .int .i64 z8, .int .i64 z9] 42))) := K12.out.alloc _
      have GX : Hid (w.heap.size ≤ w2.heap.size) := K2.out.size
      generalize (w2.alloc (.cells #[.int .i64 z0, .int .i64 z1, .int .i64 z2, .int .i64 z3, .int .i64 z4, .int .i64 z5, .int .i64 z6, .int .i64 (z7 + n), .int .i64 z8, .int .i64 z9] 42)) = w3 at *
      generalize w2.heap.size = gx at *
      have C3 := Lib.hid (HC.out.kpt K3.out)
      have s3 : World.cell? w3 ⟨g, 1, none⟩ = some (.slice (some ⟨gf, 0, none⟩) nf capf) := C3.out.blk.cell 1
      have hgf := (row_ge HC.out.of (k := gf) (by simp [Value.ownBlock])).2
      obtain ⟨gc, hgc⟩ : ∃ cur, Blk w3 gf cur 42 := row_blk C3.out.of (k := gf) (by simp [Value.ownBlock])
      have p0 : World.cell? w3 ⟨gf, k * 10, none⟩ = some (.int .i64 z0) := K13.out.cell c0
      have p1 : World.cell? w3 ⟨gf, k * 10 + 1, none⟩ = some (.int .i64 z1) := K13.out.cell c1
      have p2 : World.cell? w3 ⟨gf, k * 10 + 2, none⟩ = some (.int .i64 z2) := K13.out.cell c2
      have p3 : World.cell? w3 ⟨gf, k * 10 + 3, none⟩ = some (.int .i64 z3) := K13.out.cell c3
      have p4 : World.cell? w3 ⟨gf, k * 10 + 4, none⟩ = some (.int .i64 z4) := K13.out.cell c4
      have p5 : World.cell? w3 ⟨gf, k * 10 + 5, none⟩ = some (.int .i64 z5) := K13.out.cell c5
      have p6 : World.cell? w3 ⟨gf, k * 10 + 6, none⟩ = some (.int .i64 z6) := K13.out.cell c6
      have p7 : World.cell? w3 ⟨gf, k * 10 + 7, none⟩ = some (.int .i64 z7) := K13.out.cell c7
      have p8 : World.cell? w3 ⟨gf, k * 10 + 8, none⟩ = some (.int .i64 z8) := K13.out.cell c8
      have p9 : World.cell? w3 ⟨gf, k * 10 + 9, none⟩ = some (.int .i64 z9) := K13.out.cell c9
      have r0 : World.frozen? w3 ⟨gf, k * 10, none⟩ = false := Blk.frozen hgc (k * 10)
      have r1 : World.frozen? w3 ⟨gf, k * 10 + 1, none⟩ = false := Blk.frozen hgc (k * 10 + 1)
      have r2 : World.frozen? w3 ⟨gf, k * 10 + 2, none⟩ = false := Blk.frozen hgc (k * 10 + 2)
      have r3 : World.frozen? w3 ⟨gf, k * 10 + 3, none⟩ = false := Blk.frozen hgc (k * 10 + 3)
      have r4 : World.frozen? w3 ⟨gf, k * 10 + 4, none⟩ = false := Blk.frozen hgc (k * 10 + 4)
      have r5 : World.frozen? w3 ⟨gf, k * 10 + 5, none⟩ = false := Blk.frozen hgc (k * 10 + 5)
      have r6 : World.frozen? w3 ⟨gf, k * 10 + 6, none⟩ = false := Blk.frozen hgc (k * 10 + 6)
      have r7 : World.frozen? w3 ⟨gf, k * 10 + 7, none⟩ = false := Blk.frozen hgc (k * 10 + 7)
      have r8 : World.frozen? w3 ⟨gf, k * 10 + 8, none⟩ = false := Blk.frozen hgc (k * 10 + 8)
      have r9 : World.frozen? w3 ⟨gf, k * 10 + 9, none⟩ = false := Blk.frozen hgc (k * 10 + 9)
      have e0 : World.cell? w3 ⟨gx, 0, none⟩ = some (.int .i64 z0) := R3.out.cell 0
      have e1 : World.cell? w3 ⟨gx, 1, none⟩ = some (.int .i64 z1) := R3.out.cell 1
      have e2 : World.cell? w3 ⟨gx, 2, none⟩ = some (.int .i64 z2) := R3.out.cell 2
      have e3 : World.cell? w3 ⟨gx, 3, none⟩ = some (.int .i64 z3) := R3.out.cell 3
      have e4 : World.cell? w3 ⟨gx, 4, none⟩ = some (.int .i64 z4) := R3.out.cell 4
      have e5 : World.cell? w3 ⟨gx, 5, none⟩ = some (.int .i64 z5) := R3.out.cell 5
      have e6 : World.cell? w3 ⟨gx, 6, none⟩ = some (.int .i64 z6) := R3.out.cell 6
      have e7 : World.cell? w3 ⟨gx, 7, none⟩ = some (.int .i64 (z7 + n)) := R3.out.cell 7
      have e8 : World.cell? w3 ⟨gx, 8, none⟩ = some (.int .i64 z8) := R3.out.cell 8
      have e9 : World.cell? w3 ⟨gx, 9, none⟩ = some (.int .i64 z9) := R3.out.cell 9
      clear hgc c0 c1 c2 c3 c4 c5 c6 c7 c8 c9 s1
      have cp := clerk_put (l := delF l n) C3.out (k := k) HLT.out
      have ot := heap_setCells_other w3 gf (k * 10) (rowN 10 (delF l n)) gx (by have := GX.out; omega)
      rw [RW.out] at cp ot
      have CP7 := Lib.hid cp
      have OT := Lib.hid ot
      clear cp ot hgf
      go_region
      obtain ⟨q1, q2, q3⟩ := CP7.out
      have C9 : Hid (ClerkIs (((((((((((w3.setCell ⟨gf, k * 10, none⟩ (.int .i64 z0)).setCell ⟨gf, k * 10 + 1, none⟩ (.int .i64 z1)).setCell ⟨gf, k * 10 + 2, none⟩ (.int .i64 z2)).setCell ⟨gf, k * 10 + 3, none⟩ (.int .i64 z3)).setCell ⟨gf, k * 10 + 4, none⟩ (.int .i64 z4)).setCell ⟨gf, k * 10 + 5, none⟩ (.int .i64 z5)).setCell ⟨gf, k * 10 + 6, none⟩ (.int .i64 z6)).setCell ⟨gf, k * 10 + 7, none⟩ (.int .i64 (z7 + n))).setCell ⟨gf, k * 10 + 8, none⟩ (.int .i64 z8)).setCell ⟨gf, k * 10 + 9, none⟩ (.int .i64 z9)).drew) base g T (.slice (some ⟨gf, 0, none⟩) nf capf) bv pv (fs.set k (delF l n)) b p) := ClerkIs.kpt q1 (Below.drew (Kpt.refl _))
      have K9 : Hid (Below base w3 (((((((((((w3.setCell ⟨gf, k * 10, none⟩ (.int .i64 z0)).setCell ⟨gf, k * 10 + 1, none⟩ (.int .i64 z1)).setCell ⟨gf, k * 10 + 2, none⟩ (.int .i64 z2)).setCell ⟨gf, k * 10 + 3, none⟩ (.int .i64 z3)).setCell ⟨gf, k * 10 + 4, none⟩ (.int .i64 z4)).setCell ⟨gf, k * 10 + 5, none⟩ (.int .i64 z5)).setCell ⟨gf, k * 10 + 6, none⟩ (.int .i64 z6)).setCell ⟨gf, k * 10 + 7, none⟩ (.int .i64 (z7 + n))).setCell ⟨gf, k * 10 + 8, none⟩ (.int .i64 z8)).setCell ⟨gf, k * 10 + 9, none⟩ (.int .i64 z9)).drew)) := Below.drew (q2 w3 (Below.refl _ _))
      have Y9 : Hid (KpY w3 (((((((((((w3.setCell ⟨gf, k * 10, none⟩ (.int .i64 z0)).setCell ⟨gf, k * 10 + 1, none⟩ (.int .i64 z1)).setCell ⟨gf, k * 10 + 2, none⟩ (.int .i64 z2)).setCell ⟨gf, k * 10 + 3, none⟩ (.int .i64 z3)).setCell ⟨gf, k * 10 + 4, none⟩ (.int .i64 z4)).setCell ⟨gf, k * 10 + 5, none⟩ (.int .i64 z5)).setCell ⟨gf, k * 10 + 6, none⟩ (.int .i64 z6)).setCell ⟨gf, k * 10 + 7, none⟩ (.int .i64 (z7 + n))).setCell ⟨gf, k * 10 + 8, none⟩ (.int .i64 z8)).setCell ⟨gf, k * 10 + 9, none⟩ (.int .i64 z9)).drew)) := fun j cs e hj h1 h2 h3 => Blk.kpt (q3 j cs e hj h3) (Below.drew (Kpt.refl _))
      have R9 : Hid (Blk (((((((((((w3.setCell ⟨gf, k * 10, none⟩ (.int .i64 z0)).setCell ⟨gf, k * 10 + 1, none⟩ (.int .i64 z1)).setCell ⟨gf, k * 10 + 2, none⟩ (.int .i64 z2)).setCell ⟨gf, k * 10 + 3, none⟩ (.int .i64 z3)).setCell ⟨gf, k * 10 + 4, none⟩ (.int .i64 z4)).setCell ⟨gf, k * 10 + 5, none⟩ (.int .i64 z5)).setCell ⟨gf, k * 10 + 6, none⟩ (.int .i64 z6)).setCell ⟨gf, k * 10 + 7, none⟩ (.int .i64 (z7 + n))).setCell ⟨gf, k * 10 + 8, none⟩ (.int .i64 z8)).setCell ⟨gf, k * 10 + 9, none⟩ (.int .i64 z9)).drew) gx #[.int .i64 z0, .int .i64 z1, .int .i64 z2, .int .i64 z3, .int .i64 z4, .int .i64 z5, .int .i64 z6, .int .i64 (z7 + n), .int .i64 z8, .int .i64 z9] 42) := Blk.kpt (show Blk _ gx #[.int .i64 z0, .int .i64 z1, .int .i64 z2, .int .i64 z3, .int .i64 z4, .int .i64 z5, .int .i64 z6, .int .i64 (z7 + n), .int .i64 z8, .int .i64 z9] 42 from OT.out.trans R3.out) (Below.drew (Kpt.refl _))
      clear q1 q2 q3 CP7 OT p0 p1 p2 p3 p4 p5 p6 p7 p8 p9 r0 r1 r2 r3 r4 r5 r6 r7 r8 r9 e0 e1 e2 e3 e4 e5 e6 e7 e8 e9 s3
      generalize (((((((((((w3.setCell ⟨gf, k * 10, none⟩ (.int .i64 z0)).setCell ⟨gf, k * 10 + 1, none⟩ (.int .i64 z1)).setCell ⟨gf, k * 10 + 2, none⟩ (.int .i64 z2)).setCell ⟨gf, k * 10 + 3, none⟩ (.int .i64 z3)).setCell ⟨gf, k * 10 + 4, none⟩ (.int .i64 z4)).setCell ⟨gf, k * 10 + 5, none⟩ (.int .i64 z5)).setCell ⟨gf, k * 10 + 6, none⟩ (.int .i64 z6)).setCell ⟨gf, k * 10 + 7, none⟩ (.int .i64 (z7 + n))).setCell ⟨gf, k * 10 + 8, none⟩ (.int .i64 z8)).setCell ⟨gf, k * 10 + 9, none⟩ (.int .i64 z9)).drew) = w9 at *
      have d1 : World.cell? w9 ⟨gx, 1, none⟩ = some (.int .i64 z1) := R9.out.cell 1
      have d2 : World.cell? w9 ⟨gx, 2, none⟩ = some (.int .i64 z2) := R9.out.cell 2
      have d4 : World.cell? w9 ⟨gx, 4, none⟩ = some (.int .i64 z4) := R9.out.cell 4
      have KA : Hid (Kpt w9 (w9.alloc (.cells #[.int .i64 z1, .int .i64 z4, .int .i64 (-n), .int .i64 z2, .int .i64 z4, .int .i64 n] 55))) := (Kpt.refl _).alloc _
      rw [DL.out] at DP
      have RP := two_postU (Blk.made w9 #[.int .i64 z1, .int .i64 z4, .int .i64 (-n), .int .i64 z2, .int .i64 z4, .int .i64 n] 55) DP.out
      rw [← DL.out] at RP
      have CPO := Lib.hid (cpost_any base g 2 2 T _ _ _ _ (fs.set k (delF l n)) b p (delL l n) _ (C9.out.kpt KA.out) HBP.out RP (by have := HPL.out; unfold delL; simp only [List.length_cons, List.length_nil]; omega))
      clear RP
      go_wp2_with (go_at_call 109; (with_reducible refine CPO.out.mono ?_); rintro x w10 ⟨rfl, hc, kb, kx⟩; have HC10 := Lib.hid hc; have KB10 := Lib.hid kb; have KX10 := Lib.hid kx; clear hc kb kx)
      go_ret
      have BA : base ≤ w9.heap.size := Nat.le_of_lt (Nat.lt_of_le_of_lt C9.out.ge C9.out.blk.lt)
      exact ⟨rfl, HC10.out, (((K3.out.mono HB.out).trans K9.out).trans (KA.out.mono BA)).trans KB10.out, (((Kpt.y K3.out).trans Y9.out).trans (Kpt.y KA.out)).trans (KpX.y KX10.out)⟩
    · rw [if_neg h2] at de
      rw [de]
      have FD := Lib.hid (FD.out h2)
      have H2 := Lib.hid h2
      have z0 : (tkL (atF id fs) n != 0) = true := bne_iff_ne.2 h2
      clear FO h2 de DE RW DL
      generalize fs.set (ixF id fs) (delF (atF id fs) n) = fr at *
      generalize cpoB b (delL (atF id fs) n) = br at *
      generalize cpoP b (delL (atF id fs) n) = pr at *
      generalize tkL (atF id fs) n = E at *
      generalize atF id fs = l at *
      generalize ixF id fs = k at *
      generalize l.getD 0 0 = z0 at *
      generalize l.getD 1 0 = z1 at *
      generalize l.getD 2 0 = z2 at *
      generalize l.getD 3 0 = z3 at *
      generalize l.getD 4 0 = z4 at *
      generalize l.getD 5 0 = z5 at *
      generalize l.getD 6 0 = z6 at *
      generalize l.getD 7 0 = z7 at *
      generalize l.getD 8 0 = z8 at *
      generalize l.getD 9 0 = z9 at *
      go_enter Tryz.func60, Tryz.ntmps60
      go_wp2_with (first
        | (go_at_call 36; (with_reducible refine FI.out.mono ?_); rintro x w1 ⟨rfl, kk⟩; have K1 := Lib.hid kk; have s1 : World.cell? w1 ⟨g, 1, none⟩ = some (.slice (some ⟨gf, 0, none⟩) nf capf) := kk.cell s1; have c0 : World.cell? w1 ⟨gf, k * 10, none⟩ = some (.int .i64 z0) := kk.cell c0; have c1 : World.cell? w1 ⟨gf, k * 10 + 1, none⟩ = some (.int .i64 z1) := kk.cell c1; have c2 : World.cell? w1 ⟨gf, k * 10 + 2, none⟩ = some (.int .i64 z2) := kk.cell c2; have c3 : World.cell? w1 ⟨gf, k * 10 + 3, none⟩ = some (.int .i64 z3) := kk.cell c3; have c4 : World.cell? w1 ⟨gf, k * 10 + 4, none⟩ = some (.int .i64 z4) := kk.cell c4; have c5 : World.cell? w1 ⟨gf, k * 10 + 5, none⟩ = some (.int .i64 z5) := kk.cell c5; have c6 : World.cell? w1 ⟨gf, k * 10 + 6, none⟩ = some (.int .i64 z6) := kk.cell c6; have c7 : World.cell? w1 ⟨gf, k * 10 + 7, none⟩ = some (.int .i64 z7) := kk.cell c7; have c8 : World.cell? w1 ⟨gf, k * 10 + 8, none⟩ = some (.int .i64 z8) := kk.cell c8; have c9 : World.cell? w1 ⟨gf, k * 10 + 9, none⟩ = some (.int .i64 z9) := kk.cell c9; clear kk)
        | (go_at_call 76; (with_reducible refine (FD.out _).mono ?_); rintro x w2 ⟨rfl, kk⟩; have K2 := Lib.hid (ktr K1.out kk); clear kk))
      go_ret
      exact ⟨rfl, fun h => absurd h H2.out, (K2.out.alloc _).mono HB.out, Kpt.y (K2.out.alloc _)⟩

end Go.Proofs.YthaahebggboliaaGreat

-- CycK
namespace Go.Proofs.YthaahebggboliaaGreat
open Go.RowKit Go.Sort Go.Lib
set_option linter.unusedVariables false

/-- what a call answers that gives a world -/
def WdRes (w : World) (E T : Int) (fs : List (List Int)) (b : List (Int × Int × Int)) (e : Ending) (w' : World) : Prop :=
  ∃ fv bv, e = .returned (.tuple #[.agg #[.int .i64 T, fv, bv], .int .i64 E]) ∧ OwnsN 10 42 w' w.heap.size fv fs ∧ OwnsP w' w.heap.size bv b ∧ Kpt w w'
/-- the error of Deliver; its answer, which is nothing where there is an error -/
def dvE (T id n : Int) (fs : List (List Int)) (b : List (Int × Int × Int)) : Int := orE (wldE T fs b) (dlE id n fs b)
def dvT (T id n : Int) (fs : List (List Int)) (b : List (Int × Int × Int)) : Int := if dvE T id n fs b = 0 then T else 0
def dvF (T id n : Int) (fs : List (List Int)) (b : List (Int × Int × Int)) : List (List Int) := if dvE T id n fs b = 0 then fs.set (ixF id fs) (delF (atF id fs) n) else []
def dvB (T id n : Int) (fs : List (List Int)) (b : List (Int × Int × Int)) : List (Int × Int × Int) := if dvE T id n fs b = 0 then cpoB b (delL (atF id fs) n) else []
theorem dvRes_E {w w' : World} {T id n E : Int} {fs : List (List Int)} {b : List (Int × Int × Int)} (h : dvE T id n fs b = E) (h0 : E ≠ 0) (k : Kpt w w') : WdRes w (dvE T id n fs b) (dvT T id n fs b) (dvF T id n fs b) (dvB T id n fs b) (.returned (.tuple #[.agg #[.int .i64 0, .slice none 0 0, .slice none 0 0], .int .i64 E])) w' := by
  subst h
  unfold dvT dvF dvB
  rw [if_neg h0, if_neg h0, if_neg h0]
  exact ⟨_, _, rfl, OwnsN.nil _ _ _ _, OwnsP.nil _ _, k⟩

theorem row_put {w w' : World} {base : Nat} {e e' : TypeId} {size : Nat} {v : Value} {n : Nat} {xs : List Value} (h : w.ownsRow base e size v n xs) {g : Nat} {cs : Array Value} (hb : Blk w g cs e') (ho : ∀ k, k ≠ g → w'.heap[k]? = w.heap[k]?) (hT : e ≠ e') : w'.ownsRow base e size v n xs := by
  obtain ⟨h1, h2⟩ := h
  refine ⟨h1, ?_⟩
  rcases h2 with h2 | ⟨k, cap, cur, rfl, hk, hh, r⟩
  · exact .inl h2
  · refine .inr ⟨k, cap, cur, rfl, hk, (ho k (fun q => hT (by
      subst q
      have a : w.heap[k]? = some (.cells cs e' (0, 0)) := hb
      rw [hh] at a
      cases a; rfl))).trans hh, r⟩

set_option maxRecDepth 100000 in
set_option maxHeartbeats 4000000 in
theorem deliver_any (T id n : Int) (fv bv : Value) (fs : List (List Int)) (b : List (Int × Int × Int)) (w : World) (hF : ReadsF w fv fs) (hn : NilC fv) (hb : ReadsP w bv b) :
    Calls Tryz.prog 20 #[.agg #[.int .i64 T, fv, bv], .int .i64 id, .int .i64 n] w (WdRes w (dvE T id n fs b) (dvT T id n fs b) (dvF T id n fs b) (dvB T id n fs b)) := by
  have WC := fun w' (k : Kpt w w') => wcheck_run T fv bv fs b w' (hF.kpt k) (hb.kpt k)
  have K0 : Hid (Kpt w ((w.alloc (.cells #[.int .i64 T, fv, bv] 31)).alloc (.cells #[.int .i64 0, .slice none 0 0, .slice none 0 0] 31))) := ((Kpt.refl w).alloc _).alloc _
  have B6 : Hid (Blk ((w.alloc (.cells #[.int .i64 T, fv, bv] 31)).alloc (.cells #[.int .i64 0, .slice none 0 0, .slice none 0 0] 31)) (w.heap.size + 1) #[.int .i64 0, .slice none 0 0, .slice none 0 0] 31) := by
    have := Blk.made (w.alloc (.cells #[.int .i64 T, fv, bv] 31)) #[.int .i64 0, .slice none 0 0, .slice none 0 0] 31
    rwa [World.size_alloc] at this
  obtain ⟨af, capf, rfl, -⟩ := _root_.id hF
  obtain ⟨ab, capb, rfl, -⟩ := _root_.id hb
  by_cases h2 : wldE T fs b = 0
  · have NE : Hid (dvE T id n fs b = dlE id n fs b) := by unfold Hid dvE; rw [orE, if_pos h2]
    have EN := Lib.hid (fun w' (k : Kpt w w') => engage_ok T _ _ fs b w' (hF.kpt k) hn (hb.kpt k) h2)
    have bpt : ∀ x ∈ b, ptB x = true := strict_pt (lin_0 (wld_0 h2).2.2).2.1
    have DL := Lib.hid (fun base g fv' bv' w' (hC : ClerkIs w' base g T fv' bv' (.slice none 0 0) fs b []) => deliver_run base g T id n fv' bv' _ fs b [] w' hC bpt (by simp) (flB_of hF) (wld_0 h2).2.1)
    have NT : Hid (dvE T id n fs b = 0 → dvT T id n fs b = T ∧ dvF T id n fs b = fs.set (ixF id fs) (delF (atF id fs) n) ∧ dvB T id n fs b = cpoB b (delL (atF id fs) n)) := fun h => ⟨if_pos h, if_pos h, if_pos h⟩
    by_cases h3 : dlE id n fs b = 0
    · obtain ⟨e1, e2, e3⟩ := NT.out (NE.out.trans h3)
      rw [NE.out.trans h3, e1, e2, e3]
      rw [h3] at DL
      clear h2 h3 WC hF hn hb NE NT e1 e2 e3 bpt
      generalize fs.set (ixF id fs) (delF (atF id fs) n) = cf at *
      generalize cpoB b (delL (atF id fs) n) = nb at *
      go_enter Tryz.func20, Tryz.ntmps20
      go_wp2_with (first
        | (go_at_call 37; (with_reducible refine (EN.out _ K0.out).mono ?_); rintro x w2 ⟨g, fv2, bv2, rfl, hc2, kk⟩; have C2 := Lib.hid hc2; have K2 := Lib.hid (ktr K0.out kk); have K02 := Lib.hid kk; have B62 := Lib.hid (B6.out.kpt kk); clear hc2 kk)
        | (go_at_call 60; (with_reducible refine (DL.out _ _ _ _ _ C2.out).mono ?_); rintro x w3 ⟨rfl, hc3, kb, ky⟩; obtain ⟨bv3, pv3, hc3⟩ := hc3 rfl; have K03 : Hid (Kpt ((w.alloc (.cells #[.int .i64 T, .slice af fs.length capf, .slice ab b.length capb] 31)).alloc (.cells #[.int .i64 0, .slice none 0 0, .slice none 0 0] 31)) w3) := Below.trans K02.out kb; have K1 : Hid (Kpt w ((w.alloc (.cells #[.int .i64 T, .slice af fs.length capf, .slice ab b.length capb] 31)).alloc (.cells #[.int .i64 0, .slice none 0 0, .slice none 0 0] 31))) := K0.out; have K3 : Hid (Kpt w w3) := ktr K0.out K03.out; have B63 := Lib.hid (B6.out.kpt K03.out); obtain ⟨a5, n5, cap5, rfl, hn5⟩ := OwnsN.form hc3.of; obtain ⟨a6, cap6, rfl⟩ := OwnsP.form hc3.ob; have C3 := Lib.hid hc3; have s0 : World.cell? w3 ⟨g, 0, none⟩ = some (.int .i64 T) := C3.out.blk.cell 0; have s1 : World.cell? w3 ⟨g, 1, none⟩ = some (.slice a5 n5 cap5) := C3.out.blk.cell 1; have s2 : World.cell? w3 ⟨g, 2, none⟩ = some (.slice a6 nb.length cap6) := C3.out.blk.cell 2; clear hc3 kb ky)
        | (refine wp_storeW rfl (.tmp 6) (.tmp 31) rfl (w.heap.size + 1) _ _ rfl rfl B63.out rfl rfl (by simp [Value.oneCell']) ?_; intro w9 r9 k9 o9; have R9 := Lib.hid r9; have K9 : Hid (Kpt w w9) := Lib.hid (k9 _ _ K3.out (by omega)); have oF : Hid (OwnsN 10 42 w9 w.heap.size (.slice a5 n5 cap5) cf) := row_put (row_base C3.out.of K1.out.size) B63.out o9 (by decide); have oB : Hid (OwnsP w9 w.heap.size (.slice a6 nb.length cap6) nb) := row_put (row_base C3.out.ob K1.out.size) B63.out o9 (by decide); clear r9 k9 o9))
      exact bodyPost_ret (v := .tuple #[.agg #[.int .i64 T, .slice a5 n5 cap5, .slice a6 nb.length cap6], .int .i64 0]) (results_W2 Tryz.results20 _ _ _ _ _ rfl rfl R9.out rfl) rfl ⟨_, _, rfl, oF.out, oB.out, K9.out⟩
    · have HX := NE.out
      have z0 : (dlE id n fs b != 0) = true := bne_iff_ne.2 h3
      have FIN := Lib.hid (fun w' (k : Kpt w w') => dvRes_E HX h3 k)
      clear h2 h3 WC hF hn hb NE NT HX bpt
      generalize dlE id n fs b = E at *
      go_enter Tryz.func20, Tryz.ntmps20
      go_wp2_with (first
        | (go_at_call 37; (with_reducible refine (EN.out _ K0.out).mono ?_); rintro x w2 ⟨g, fv2, bv2, rfl, hc2, kk⟩; have C2 := Lib.hid hc2; have K2 := Lib.hid (ktr K0.out kk); have K02 := Lib.hid kk; have B62 := Lib.hid (B6.out.kpt kk); clear hc2 kk)
        | (go_at_call 60; (with_reducible refine (DL.out _ _ _ _ _ C2.out).mono ?_); rintro x w3 ⟨rfl, -, kb, ky⟩; have K03 : Hid (Kpt ((w.alloc (.cells #[.int .i64 T, .slice af fs.length capf, .slice ab b.length capb] 31)).alloc (.cells #[.int .i64 0, .slice none 0 0, .slice none 0 0] 31)) w3) := Below.trans K02.out kb; have K3 : Hid (Kpt w w3) := ktr K0.out K03.out; have B63 := Lib.hid (B6.out.kpt K03.out); clear kb ky)
        | (refine wp_storeW rfl (.tmp 6) (.tmp 26) rfl (w.heap.size + 1) _ _ rfl rfl B63.out rfl rfl (by simp [Value.oneCell']) ?_; intro w9 r9 k9 o9; have R9 := Lib.hid r9; have K9 : Hid (Kpt w w9) := Lib.hid (k9 _ _ K3.out (by omega)); clear r9 k9 o9))
      exact bodyPost_ret (v := .tuple #[.agg #[.int .i64 0, .slice none 0 0, .slice none 0 0], .int .i64 E]) (results_W2 Tryz.results20 _ _ _ _ _ rfl rfl R9.out rfl) rfl (FIN.out _ K9.out)
  · have HX : Hid (dvE T id n fs b = wldE T fs b) := by unfold Hid dvE; rw [orE, if_neg h2]
    have EN := Lib.hid (fun w' (k : Kpt w w') => engage_bad T _ _ _ w' h2 ⟨_, _, _, rfl⟩ ⟨_, _, _, rfl⟩ (fun w'' k' => WC w'' (ktr k k')))
    have z0 : (wldE T fs b != 0) = true := bne_iff_ne.2 h2
    have FIN := Lib.hid (fun w' (k : Kpt w w') => dvRes_E HX.out h2 k)
    clear h2 WC hF hn hb HX
    generalize wldE T fs b = E at *
    go_enter Tryz.func20, Tryz.ntmps20
    go_wp2_with (first
      | (go_at_call 37; (with_reducible refine (EN.out _ K0.out).mono ?_); rintro x w2 ⟨rfl, kk⟩; have K2 := Lib.hid (ktr K0.out kk); have B62 := Lib.hid (B6.out.kpt kk); clear kk)
      | (refine wp_storeW rfl (.tmp 6) (.tmp 18) rfl (w.heap.size + 1) _ _ rfl rfl B62.out rfl rfl (by simp [Value.oneCell']) ?_; intro w9 r9 k9 o9; have R9 := Lib.hid r9; have K9 : Hid (Kpt w w9) := Lib.hid (k9 _ _ K2.out (by omega)); clear r9 k9 o9))
    exact bodyPost_ret (v := .tuple #[.agg #[.int .i64 0, .slice none 0 0, .slice none 0 0], .int .i64 E]) (results_W2 Tryz.results20 _ _ _ _ _ rfl rfl R9.out rfl) rfl (FIN.out _ K9.out)

end Go.Proofs.YthaahebggboliaaGreat
