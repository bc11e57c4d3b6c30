/-
  Merged: NetS.
-/
import Derived.Test.YtgccipmeiceonaaMp40
import Derived.Test.YtgccipmeiceonaaMp41
import Derived.Deep.RegionWith
import Derived.Deep.RegionHeld3
import Derived.Deep.RegionLaw
import Derived.Deep.Cut
import Derived.Deep.CutRange
import Derived.Deep.DeepCutAuto
-- NetS
namespace Go.Proofs.Ytgccipmeiceonaa
open Go.RowKit
set_option linter.unusedVariables false

theorem stand_made (w : World) : Blk (w.alloc (.cells #[.int .i64 0, .int .u64 0, .int .i64 0, .int .u64 0, .int .i64 0, .int .u64 0, .int .i64 0, .int .u64 0, .int .i64 0, .int .u64 0, .int .i64 0, .int .u64 0, .int .i64 0, .int .u64 0, .int .i64 0, .int .u64 0, .int .i64 0, .int .u64 0, .int .i64 0, .int .u64 0, .int .i64 0, .int .u64 0, .int .i64 0, .int .u64 0, .int .i64 0, .int .u64 0, .int .i64 0, .int .u64 0, .int .i64 0, .int .u64 0, .int .i64 0, .int .u64 0, .int .i64 0, .int .u64 0, .int .i64 0, .int .u64 0, .int .i64 0, .int .u64 0, .int .i64 0, .int .u64 0, .int .i64 0, .int .u64 0, .int .i64 0, .int .u64 0, .int .i64 0, .int .u64 0, .int .i64 0, .int .u64 0, .int .i64 0, .int .u64 0, .int .i64 0, .int .u64 0, .int .i64 0, .int .u64 0, .int .i64 0, .int .u64 0, .int .i64 0, .int .u64 0, .int .i64 0, .int .u64 0, .int .i64 0, .int .u64 0] 165)) w.heap.size (sumsC 31 fun _ => 0) 165 := by
  have e : sumsC 31 (fun _ => 0) = #[.int .i64 0, .int .u64 0, .int .i64 0, .int .u64 0, .int .i64 0, .int .u64 0, .int .i64 0, .int .u64 0, .int .i64 0, .int .u64 0, .int .i64 0, .int .u64 0, .int .i64 0, .int .u64 0, .int .i64 0, .int .u64 0, .int .i64 0, .int .u64 0, .int .i64 0, .int .u64 0, .int .i64 0, .int .u64 0, .int .i64 0, .int .u64 0, .int .i64 0, .int .u64 0, .int .i64 0, .int .u64 0, .int .i64 0, .int .u64 0, .int .i64 0, .int .u64 0, .int .i64 0, .int .u64 0, .int .i64 0, .int .u64 0, .int .i64 0, .int .u64 0, .int .i64 0, .int .u64 0, .int .i64 0, .int .u64 0, .int .i64 0, .int .u64 0, .int .i64 0, .int .u64 0, .int .i64 0, .int .u64 0, .int .i64 0, .int .u64 0, .int .i64 0, .int .u64 0, .int .i64 0, .int .u64 0, .int .i64 0, .int .u64 0, .int .i64 0, .int .u64 0, .int .i64 0, .int .u64 0, .int .i64 0, .int .u64 0] := by kernel_rfl
  rw [e]; exact Blk.made w _ _

/-- what others owe to a party, less what it owes -/
def standF : List (Int × Int × Int) → Nat → Int
  | [], _ => 0
  | p :: l, x => (if p.2.1 = (x : Int) then p.2.2 else 0) - (if p.1 = (x : Int) then p.2.2 else 0) + standF l x
theorem standF_append (a b : List (Int × Int × Int)) (x : Nat) : standF (a ++ b) x = standF a x + standF b x := by
  induction a with
  | nil => simp [standF]
  | cons p l ih => rw [List.cons_append, standF, standF, ih]; omega
theorem standF_snoc {ps : List (Int × Int × Int)} {k : Nat} (hk : k < ps.length) (x : Nat) : standF (ps.take (k + 1)) x = standF (ps.take k) x + (if (ps.getD k default).1 = (x : Int) then -(ps.getD k default).2.2 else 0) + (if (ps.getD k default).2.1 = (x : Int) then (ps.getD k default).2.2 else 0) := by
  rw [List.take_succ_eq_append_getElem hk, standF_append, List.getD_eq_getElem?_getD, List.getElem?_eq_getElem hk]
  simp only [standF, Option.getD_some]
  split <;> split <;> omega
theorem standF_bd {ps : List (Int × Int × Int)} (h : ∀ p ∈ ps, dueB p = true) (x : Nat) : -(1152921504606846976 * (ps.length : Int)) ≤ standF ps x ∧ standF ps x ≤ 1152921504606846976 * (ps.length : Int) := by
  induction ps with
  | nil => simp [standF]
  | cons p l ih =>
    have hp := due_t (h p (by simp))
    have := ih (fun q hq => h q (by simp [hq]))
    rw [standF, List.length_cons]
    split <;> split <;> omega
theorem stand_put {w1 : World} {g u : Nat} {N : Int} {f h : Nat → Int} (hu : u < 31) (hst : ∀ x : Nat, h x = f x + if (u : Int) = (x : Int) then N else 0) (B : Blk w1 g (sumsC 31 f) 165) :
    Hid (Blk ((w1.setCell ⟨g, u * 2, none⟩ (.int .i64 (hiOf (f u + N)))).setCell ⟨g, u * 2 + 1, none⟩ (.int .u64 (loOf (f u + N)))) g (sumsC 31 h) 165) := by
  have e := sums_put 31 f h u hu (fun x hx => by rw [hst x, if_neg (by omega), Int.add_zero])
  have e2 : h u = f u + N := by rw [hst u, if_pos rfl]
  rw [e2] at e
  unfold Hid
  rw [← e]
  exact (B.put _ _).put _ _

set_option maxRecDepth 100000 in
theorem stand_bad (v : Value) (ps : List (Int × Int × Int)) (w : World) (hr : ReadsP w v ps) (hE : netE ps ≠ 0) :
    Calls Try.prog 115 #[v] w fun e w' => e = .returned (.tuple #[.slice none 0 0, .int .i64 (netE ps)]) ∧ Grew w w' := by
  have C := Lib.hid (netCheck_any v ps w hr)
  generalize netE ps = E at C hE
  have q : (E != 0) = true := bne_iff_ne.2 hE
  clear hr
  go_enter Try.func115, Try.ntmps115
  go_wp2_with (go_at_call 136; (with_reducible refine C.out.mono ?_); rintro e w' ⟨rfl, g1⟩)
  go_ret2
  exact ⟨rfl, g1⟩

set_option maxHeartbeats 4000000 in
set_option maxRecDepth 100000 in
theorem stand_some (b off cap : Nat) (ps : List (Int × Int × Int)) (w : World) (hr : ReadsP w (.slice (some ⟨b, off, none⟩) ps.length cap) ps) (hE : netE ps = 0) (hm : ps.length ≤ 60) (hd : ∀ p ∈ ps, dueB p = true) (hc : ∀ j, j < ps.length → PtAt w b (off + j * 3) (ps.getD j default)) :
    Calls Try.prog 115 #[.slice (some ⟨b, off, none⟩) ps.length cap] w fun e w' => ∃ w1, Grew w w1 ∧ AmtsEnd w1 31 (standF ps) e w' := by
  have C := Lib.hid (netCheck_any _ ps w hr)
  rw [hE] at C
  have HC := Lib.hid hc; clear hc
  have HP := Lib.hid hd
  have HBD : Hid (∀ k x : Nat, k ≤ ps.length → -(1152921504606846976 * (k : Int)) ≤ standF (ps.take k) x ∧ standF (ps.take k) x ≤ 1152921504606846976 * (k : Int)) := fun k x hk => by
    have := standF_bd (ps := ps.take k) (fun p hp => hd p (List.mem_of_mem_take hp)) x
    rwa [List.length_take, Nat.min_eq_left hk] at this
  clear hd hr hE
  go_enter Try.func115, Try.ntmps115
  go_wp2_with (go_at_call 136; (with_reducible refine C.out.mono ?_); rintro e w0 ⟨rfl, g0⟩; have G0 := Lib.hid g0; clear g0)
  go_loopw [15] (fun i wr => ∃ k : Nat, k ≤ ps.length ∧ i = .int .i64 k ∧ Hid (Blk wr w0.heap.size (sumsC 31 (standF (ps.take k))) 165) ∧ Hid (Grew w0 wr)) (fun i _ => ps.length - (intOf i).toNat)
  case atStart => exact ⟨0, Nat.zero_le _, rfl, stand_made w0, (Grew.refl _).alloc _ _⟩
  case round =>
    obtain ⟨k, hk, rfl, HB, HG⟩ := hrel
    by_cases hlt : k < ps.length
    · obtain ⟨c0, c1, c2⟩ := ((HC.out k hlt).grew G0.out).grew HG.out
      have hq := due_t (HP.out _ (getP_mem hlt))
      have hst := standF_snoc hlt
      have bd := fun x => HBD.out k x hk
      generalize ps.getD k default = p at c0 c1 c2 hq hst
      obtain ⟨F, T, A⟩ := p
      simp only at c0 c1 c2 hq hst
      obtain ⟨f, rfl⟩ : ∃ f : Nat, F = (f : Int) := ⟨F.toNat, by omega⟩
      obtain ⟨t, rfl⟩ : ∃ t : Nat, T = (t : Int) := ⟨T.toNat, by omega⟩
      have hf : f < 31 := by omega
      have ht : t < 31 := by omega
      have a0 : 1 ≤ A := by omega
      have a1 : A ≤ 1152921504606846976 := by omega
      obtain ⟨h1, hh1⟩ : ∃ h1 : Nat → Int, ∀ x : Nat, h1 x = standF (ps.take k) x + if (f : Int) = (x : Int) then -A else 0 := ⟨_, fun x => rfl⟩
      have hh2 : ∀ x : Nat, standF (ps.take (k + 1)) x = h1 x + if (t : Int) = (x : Int) then A else 0 := fun x => by rw [hst x, hh1 x]
      have ok0 : okS (standF (ps.take k) f) := okS_mk (k := 60) (by omega) (by have := bd f; omega) (by have := bd f; omega)
      have ok1 : okS (h1 t) := by
        have e1 := hh1 t
        have e2 := bd t
        refine okS_mk (k := 61) (by omega) ?_ ?_
        · rw [e1]; split <;> omega
        · rw [e1]; split <;> omega
      have OK0 := Lib.hid ok0
      have OK1 := Lib.hid ok1
      have H1 := Lib.hid hh1
      have H2 := Lib.hid hh2
      clear hst bd hq ok0 ok1 hh1 hh2
      go_wp2
      have e0 : (wr.alloc (.cells #[.int .i64 (f : Int), .int .i64 (t : Int), .int .i64 A] 80)).cell? ⟨wr.heap.size, 0, none⟩ = some (.int .i64 (f : Int)) := (Blk.made wr _ _).cell 0
      have GA := Lib.hid (HG.out.alloc #[.int .i64 (f : Int), .int .i64 (t : Int), .int .i64 A] 80)
      have WA := Lib.hid (HB.out.alloc (.cells #[.int .i64 (f : Int), .int .i64 (t : Int), .int .i64 A] 80))
      have DA := Lib.hid (Blk.made wr #[.int .i64 (f : Int), .int .i64 (t : Int), .int .i64 A] 80)
      have hlt2 : w0.heap.size < wr.heap.size := HB.out.lt
      clear c0 c1 c2 e0
      generalize wr.alloc (.cells #[.int .i64 (f : Int), .int .i64 (t : Int), .int .i64 A] 80) = W1 at *
      generalize wr.heap.size = D at *
      have hne : D ≠ w0.heap.size := by omega
      have hne' : w0.heap.size ≠ D := by omega
      have f0 : (0 : Int) ≤ (f : Int) := by omega
      have f1 : (f : Int) < 31 := by omega
      have t0 : (0 : Int) ≤ (t : Int) := by omega
      have t1 : (t : Int) < 31 := by omega
      have wn : IntKind.i64.wrap (-A) = -A := IntWalk.i64_in _ (by omega)
      go_cut [20] from 19 to 29 (fun v20 wx => v20 = .int .i64 (f : Int) ∧ Hid (Blk wx w0.heap.size (sumsC 31 h1) 165) ∧ Hid (Blk wx D #[.int .i64 (f : Int), .int .i64 (t : Int), .int .i64 A] 80) ∧ Hid (Grew w0 wx))
      case first =>
        have e0 : W1.cell? ⟨D, 0, none⟩ = some (.int .i64 (f : Int)) := DA.out.cell 0
        have e2 : W1.cell? ⟨D, 2, none⟩ = some (.int .i64 A) := DA.out.cell 2
        have d0 : W1.cell? ⟨w0.heap.size, f * 2, none⟩ = some (.int .i64 (hiOf (standF (ps.take k) f))) := (WA.out.cell _).trans (sums_hi 31 _ f hf)
        have d1 : W1.cell? ⟨w0.heap.size, f * 2 + 1, none⟩ = some (.int .u64 (loOf (standF (ps.take k) f))) := (WA.out.cell _).trans (sums_lo 31 _ f hf)
        go_region_with (go_at_call 119; (with_reducible refine (plus_at (standF (ps.take k) f) (-A) _ OK0.out (by omega) (by omega)).mono ?_); rintro e w1 ⟨rfl, g1⟩; have k1 := g1.cell (cell_in (w := W1.drew) e0) e0; have B1 := Lib.hid ((WA.out.drew).grew g1); have D1 := Lib.hid ((DA.out.drew).grew g1); have d2 : w1.cell? ⟨w0.heap.size, f * 2, none⟩ = some (.int .i64 (hiOf (standF (ps.take k) f))) := (B1.out.cell _).trans (sums_hi 31 _ f hf); have d3 : w1.cell? ⟨w0.heap.size, f * 2 + 1, none⟩ = some (.int .u64 (loOf (standF (ps.take k) f))) := (B1.out.cell _).trans (sums_lo 31 _ f hf); have f0 := B1.out.frozen (f * 2); have f1 := B1.out.frozen (f * 2 + 1); have G1 := Lib.hid (gtr GA.out.drew g1); clear g1)
        all_goals go_wp2
        all_goals go_meet
        all_goals (case rel => exact ⟨rfl, stand_put hf H1.out B1.out, (D1.out.away (by simpa using hne) _).away (by simpa using hne) _, (G1.out.setCell (Nat.le_refl _) _).setCell (Nat.le_refl _) _⟩)
      case rest =>
      obtain ⟨rfl, hb2, hd2, hg2⟩ := hcut
      go_upto_region 9 with fail
      have e0 : wc.cell? ⟨D, 1, none⟩ = some (.int .i64 (t : Int)) := hd2.out.cell 1
      have e2 : wc.cell? ⟨D, 2, none⟩ = some (.int .i64 A) := hd2.out.cell 2
      have d0 : wc.cell? ⟨w0.heap.size, t * 2, none⟩ = some (.int .i64 (hiOf (h1 t))) := (hb2.out.cell _).trans (sums_hi 31 _ t ht)
      have d1 : wc.cell? ⟨w0.heap.size, t * 2 + 1, none⟩ = some (.int .u64 (loOf (h1 t))) := (hb2.out.cell _).trans (sums_lo 31 _ t ht)
      go_region_with (go_at_call 119; (with_reducible refine (plus_at (h1 t) (A) _ OK1.out (by omega) (by omega)).mono ?_); rintro e w1 ⟨rfl, g1⟩; have k1 := g1.cell (cell_in (w := wc.drew) e0) e0; have B1 := Lib.hid ((hb2.out.drew).grew g1); have D1 := Lib.hid ((hd2.out.drew).grew g1); have d2 : w1.cell? ⟨w0.heap.size, t * 2, none⟩ = some (.int .i64 (hiOf (h1 t))) := (B1.out.cell _).trans (sums_hi 31 _ t ht); have d3 : w1.cell? ⟨w0.heap.size, t * 2 + 1, none⟩ = some (.int .u64 (loOf (h1 t))) := (B1.out.cell _).trans (sums_lo 31 _ t ht); have f0 := B1.out.frozen (t * 2); have f1 := B1.out.frozen (t * 2 + 1); have G1 := Lib.hid (gtr hg2.out.drew g1); clear g1)
      all_goals go_wp2
      all_goals go_roundw
      all_goals first
        | (case rel => exact ⟨k + 1, by omega, by go_num, stand_put ht H2.out B1.out, (G1.out.setCell (Nat.le_refl _) _).setCell (Nat.le_refl _) _⟩)
        | (case measure => simp [intOf]; omega)
    · obtain rfl : k = ps.length := by omega
      have e : ps.take ps.length = ps := List.take_of_length_le (Nat.le_refl _)
      rw [e] at HB
      have AM := Lib.hid (amounts_run w0.heap.size 31 31 (standF ps) 165 wr (by omega) HB.out)
      have GG := Lib.hid (gtr G0.out HG.out)
      clear e HB
      go_wp2_with (go_at_call 137; (with_reducible refine AM.out.mono ?_); rintro e w9 h9; have G9 := Lib.hid h9.1; rcases h9.2 with ⟨ha, g, hg, rfl, hrow⟩ | ⟨ha, rfl⟩ <;> (have H9 := Lib.hid ha; clear ha h9))
      · go_ret2
        exact ⟨wr, GG.out, G9.out, .inl ⟨H9.out, g, hg, rfl, hrow⟩⟩
      · go_ret2
        exact ⟨wr, GG.out, G9.out, .inr ⟨H9.out, rfl⟩⟩

end Go.Proofs.Ytgccipmeiceonaa
