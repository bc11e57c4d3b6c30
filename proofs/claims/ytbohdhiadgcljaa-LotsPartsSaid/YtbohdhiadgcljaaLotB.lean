/-
  What the calls that choose a lot, Sell, Has and Buy of package lots do.
-/
import Derived.Test.YtbohdhiadgcljaaLotA
import Derived.Test.YtbohdhiadgcljaaLotDel
namespace Go.Proofs.Ytbohdhiadgcljaa
open Go.RowKit
set_option linter.unusedVariables false

theorem kpt_grown_to (w : World) (n : Nat) (os : Array Obj) : Kpt w (Go.Sort.grow (w.drewN n) os) := ((Kpt.refl w).drewN n).grow os
theorem pick_1 (v : Value) (l : List (Int × Int × Int)) (w : World) (hr : ReadsP w v l) (h : ∀ p ∈ l, lotB p = true) (h0 : 0 < l.length) (hn : l.length ≤ 40) : Calls Try.prog 64 #[v] w fun e w' => e = .returned (.int .i64 (pickK 1 l : Nat)) ∧ Kpt w w' := by
  have E : pickK 1 l = 0 := by unfold pickK; rw [if_pos rfl]
  rw [E]
  clear E
  go_enter Try.func64, Try.ntmps64
  go_wp2
  go_ret
  exact ⟨rfl, Kpt.refl _⟩
theorem pick_2 (v : Value) (l : List (Int × Int × Int)) (w : World) (hr : ReadsP w v l) (h : ∀ p ∈ l, lotB p = true) (h0 : 0 < l.length) (hn : l.length ≤ 40) : Calls Try.prog 65 #[v] w fun e w' => e = .returned (.int .i64 (pickK 2 l : Nat)) ∧ Kpt w w' := by
  have E : Hid (((pickK 2 l : Nat) : Int) = (l.length : Int) - 1) := by unfold Hid pickK; rw [if_neg (by decide), if_pos rfl]; omega
  obtain ⟨a, cap, rfl, -⟩ := hr
  clear h
  go_enter Try.func65, Try.ntmps65
  go_wp2
  go_ret
  exact ⟨ret_int E.out.symm, Kpt.refl _⟩

theorem dear_step (l : List (Int × Int × Int)) (k : Nat) : (dearB (l.getD k default) (l.getD (dearK l k) default) = true → dearK l (k + 1) = k) ∧ (dearB (l.getD k default) (l.getD (dearK l k) default) = false → dearK l (k + 1) = dearK l k) := by
  constructor
  · intro h; rw [dearK, h]; rfl
  · intro h; rw [dearK, h]; rfl

set_option maxRecDepth 100000 in
set_option maxHeartbeats 4000000 in
theorem pick_3 (v : Value) (l : List (Int × Int × Int)) (w : World) (hr : ReadsP w v l) (h : ∀ p ∈ l, lotB p = true) (h0 : 0 < l.length) (hn : l.length ≤ 40) : Calls Try.prog 66 #[v] w fun e w' => e = .returned (.int .i64 (pickK 3 l : Nat)) ∧ Kpt w w' := by
  have E : Hid (pickK 3 l = dearK l l.length) := by unfold Hid pickK; rw [if_neg (by decide), if_neg (by decide)]
  obtain ⟨a, cap, rfl, -, -, -, hc⟩ := hr
  have HC := Lib.hid hc
  have HL := Lib.hid h
  have HK := Lib.hid (fun k (hk : k ≤ l.length) => dearK_in h0 hk)
  have HS := Lib.hid (dear_step l)
  have mixed : Try.prog.follows .mixedOrders = true := by kernel_rfl
  clear hc h
  go_enter Try.func66, Try.ntmps66
  go_wp2
  go_loopw [3, 7] (fun f i wr => ∃ k g : Nat, k ≤ l.length ∧ i = .int .i64 k ∧ f = .int .i64 g ∧ Hid (g = dearK l k) ∧ Hid (Kpt w wr)) (fun _ i _ => l.length - (intOf i).toNat)
  case atStart => exact ⟨0, 0, Nat.zero_le _, rfl, rfl, rfl, Kpt.refl _⟩
  case round =>
    obtain ⟨k, g, hk, rfl, rfl, HG, HJ⟩ := hrel
    by_cases hlt : k < l.length
    · have hg : g < l.length := by rw [HG.out]; exact HK.out k hk
      obtain ⟨b, off, rfl, hp⟩ := HC.out k hlt
      obtain ⟨b', off', e, hq⟩ := HC.out g hg
      injection e with e
      injection e with e1 e2
      subst e1; subst e2
      obtain ⟨c0, c1, c2⟩ := hp.kpt HJ.out
      obtain ⟨d0, d1, d2⟩ := hq.kpt HJ.out
      have lp := HL.out _ (getD_memL hlt)
      have lq := HL.out _ (getD_memL hg)
      have hs := HS.out k
      rw [← HG.out] at hs
      have HS2 := Lib.hid hs
      clear hs hp hq
      generalize l.getD k default = p at c0 c1 c2 lp HS2
      generalize l.getD g default = q at d0 d1 d2 lq HS2
      have DR := Lib.hid (fun W => isDearer_run p.1 p.2.1 p.2.2 q.1 q.2.1 q.2.2 W lp lq)
      obtain ⟨p0, p1, p2⟩ := p
      obtain ⟨r0, r1, r2⟩ := q
      simp only at c0 c1 c2 d0 d1 d2
      have f0 := cell_grown (w := wr) (cell_in c0) c0
      have f1 := cell_grown (w := wr) (cell_in c1) c1
      have f2 := cell_grown (w := wr) (cell_in c2) c2
      have g0 := cell_grown (w := wr) (cell_in d0) d0
      have g1 := cell_grown (w := wr) (cell_in d1) d1
      have g2 := cell_grown (w := wr) (cell_in d2) d2
      have k0 : (0 : Int) ≤ (k : Int) := by omega
      have k1 : (k : Int) < (l.length : Int) := by omega
      have j0 : (0 : Int) ≤ (g : Int) := by omega
      have j1 : (g : Int) < (l.length : Int) := by omega
      clear lp lq
      simp only at DR HS2
      cases hB : dearB (p0, p1, p2) (r0, r1, r2) with
      | true =>
        have HX := Lib.hid (HS2.out.1 hB)
        rw [hB] at DR
        clear HS2 hB
        go_wp2_with fail
        go_quiet_grown (first
          | (go_at_call 67; with_reducible refine Calls.grown_of (DR.out _)))
        have KG := Lib.hid (kpt_grown_to wr nq osq)
        clear f0 f1 f2 g0 g1 g2
        generalize Go.Sort.grow (wr.drewN nq) osq = wr2 at *
        go_wp2
        go_roundw
        case rel => exact ⟨k + 1, k, by omega, by go_num, rfl, HX.out.symm, ktr HJ.out KG.out⟩
        case measure => simp [intOf]; omega
      | false =>
        have HX := Lib.hid (HS2.out.2 hB)
        rw [hB] at DR
        clear HS2 hB
        go_wp2_with fail
        go_quiet_grown (first
          | (go_at_call 67; with_reducible refine Calls.grown_of (DR.out _)))
        have KG := Lib.hid (kpt_grown_to wr nq osq)
        clear f0 f1 f2 g0 g1 g2
        generalize Go.Sort.grow (wr.drewN nq) osq = wr2 at *
        go_wp2
        go_roundw
        case rel => exact ⟨k + 1, g, by omega, by go_num, rfl, HX.out.symm, ktr HJ.out KG.out⟩
        case measure => simp [intOf]; omega
    · obtain rfl : k = l.length := by omega
      have HX : Hid (((pickK 3 l : Nat) : Int) = (g : Int)) := by unfold Hid; rw [E.out, HG.out]
      go_wp2
      go_ret
      exact ⟨ret_int HX.out.symm, HJ.out⟩

theorem own_put12 {T : TypeId} {w : World} {base blk n cap : Nat} {ps : List (Int × Int × Int)} (h : OwnsT T w base (.slice (some ⟨blk, 0, none⟩) n cap) ps) (k : Nat) (hk : k < ps.length) {D U Q : Int} (hd : ps.getD k default = (D, U, Q)) (x y : Int) :
    OwnsT T ((w.setCell ⟨blk, k * 3 + 1, none⟩ (.int .i64 x)).setCell ⟨blk, k * 3 + 2, none⟩ (.int .i64 y)) base (.slice (some ⟨blk, 0, none⟩) n cap) (ps.set k (D, x, y)) := by
  have h1 := h.put1 k hk x
  rw [hd] at h1
  have h2 := h1.put2 k (by simpa using hk) y
  have e : (ps.set k (D, x, Q)).getD k default = (D, x, Q) := by
    rw [List.getD_eq_getElem?_getD, List.getElem?_set]
    simp [hk]
  simp only at h2
  rw [e, List.set_set] at h2
  exact h2
theorem erase_set (ps : List (Int × Int × Int)) (k : Nat) (x : Int × Int × Int) : (ps.set k x).eraseIdx k = ps.eraseIdx k := by
  induction ps generalizing k with
  | nil => simp
  | cons p l ih =>
    cases k with
    | zero => simp
    | succ k => simp [ih]
theorem kpt_row {w w2 w3 : World} {blk : Nat} (h : Kpt w w2) (hg : w2.grownBy w3 (some blk)) (hb : w.heap.size ≤ blk) : Kpt w w3 :=
  Below.grown h hg h.size fun k hk => by
    injection hk with hk
    omega

end Go.Proofs.Ytbohdhiadgcljaa
