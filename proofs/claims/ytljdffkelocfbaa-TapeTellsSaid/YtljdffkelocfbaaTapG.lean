/-
  What first of package tape does.
-/
import Derived.Test.YtljdffkelocfbaaTapF
import Derived.BigQuiet
namespace Go.Proofs.Ytljdffkelocfbaa
open Go.RowKit
set_option linter.unusedVariables false

theorem getB_drop {bs : List Nat} {n j : Nat} : (bs.drop n).getD j 0 = bs.getD (n + j) 0 := by
  rw [List.getD_eq_getElem?_getD, List.getD_eq_getElem?_getD, List.getElem?_drop]
/-- what lies behind the first ones -/
theorem ReadsU.drop {w : World} {b off m cap : Nat} {bs : List Nat} (h : ReadsU w (.slice (some ⟨b, off, none⟩) m cap) bs) {n : Nat} (hn : n ≤ bs.length) : ReadsU w (.slice (some ⟨b, off + n, none⟩) (m - n) (cap - n)) (bs.drop n) := by
  obtain ⟨a', cap', e, h1, h2, h3, h4, hc⟩ := h
  injection e with e1 e2 e3
  subst e1 e2 e3
  refine ⟨_, cap - n, by rw [List.length_drop], by rw [List.length_drop]; omega, ⟨by omega, by rw [List.length_drop]; omega⟩, (fun e => by cases e), fun b hb => h4 b (List.mem_of_mem_drop hb), fun j hj => ?_⟩
  rw [List.length_drop] at hj
  obtain ⟨b', off', e, h'⟩ := hc (n + j) (by omega)
  simp only [Option.some.injEq, Addr.mk.injEq] at e
  obtain ⟨rfl, rfl, -⟩ := e
  exact ⟨b, off + n, rfl, by rw [getB_drop, Nat.add_assoc]; exact h'⟩
theorem ReadsU.some {w : World} {a : Option Addr} {m cap : Nat} {bs : List Nat} (h : ReadsU w (.slice a m cap) bs) (h0 : 0 < bs.length) : ∃ b off, a = Option.some ⟨b, off, none⟩ := by
  obtain ⟨b, off, e, -⟩ := h.at_ h0
  exact ⟨b, off, e⟩
theorem RowW.kpt {w w' : World} {g : Nat} {bs : List Nat} (h : RowW w g bs) (k : Kpt w w') : RowW w' g bs := Blk.below h k (Blk.lt h)
theorem fst_f0 {t : List Nat} (h : t.length < 2) : fst? t = false := decide_eq_false (by omega)
theorem fst_f1 {t : List Nat} (h : fsz t = 0) : fst? t = false := decide_eq_false (by omega)
theorem fst_f2 {t : List Nat} (h : t.length < fsz t + 6) : fst? t = false := decide_eq_false (by omega)
theorem fst_is {t : List Nat} (h1 : 2 ≤ t.length) (h2 : fsz t ≠ 0) (h3 : fsz t + 6 ≤ t.length) : fst? t = decide (nub ((t.drop (2 + fsz t)).take 4) = crc (bdy t)) := by
  unfold fst?
  by_cases h : nub ((t.drop (2 + fsz t)).take 4) = crc (bdy t)
  · rw [decide_eq_true h, decide_eq_true ⟨h1, h2, h3, h⟩]
  · rw [decide_eq_false h, decide_eq_false (fun q => h q.2.2.2)]

/-- what first answers -/
def FstRes (v : Value) (t : List Nat) (ok : Bool) (w : World) (e : Ending) (w' : World) : Prop := ∃ a n c, e = .returned (.tuple #[.slice a n c, .bool ok]) ∧ (ok = true → ∃ b off cap, v = .slice (some ⟨b, off, none⟩) t.length cap ∧ a = some ⟨b, off + 2, none⟩ ∧ n = fsz t ∧ c = cap - 2) ∧ Kpt w w'
set_option maxRecDepth 100000 in
set_option maxHeartbeats 4000000 in
theorem first_run (g : Nat) (v : Value) (t : List Nat) (w : World) (hR : RowW w g (remL 256)) (h : ReadsU w v t) : Calls Try.prog 30 #[.pointer (some ⟨g, 0, none⟩), v] w (FstRes v t (fst? t) w) := by
  obtain ⟨a, cap, rfl, hlc, hm, hn⟩ := h.form
  unfold maxLen at hm
  have h47 := h.len
  have HR := Lib.hid hR
  have H := Lib.hid h
  clear hR
  by_cases h2 : t.length < 2
  · rw [fst_f0 h2]
    have y : decide ((t.length : Int) < 2) = true := decide_eq_true (by omega)
    go_enter Try.func30, Try.ntmps30
    go_wp2
    go_ret2
    exact ⟨none, 0, 0, rfl, (fun e => by cases e), Kpt.refl _⟩
  · have y : decide ((t.length : Int) < 2) = false := decide_eq_false (by omega)
    obtain ⟨b, off, rfl⟩ := h.some (by omega)
    have NR := Lib.hid (number_run (.slice (some ⟨b, off, none⟩) 2 cap) (t.take 2) w (h.take (by omega)))
    have hfs : nub (t.take 2) = fsz t := rfl
    rw [hfs] at NR
    have hs1 := nub_lt (t.take 2) (fun x hx => h.isB x (List.mem_of_mem_take hx))
    rw [hfs] at hs1
    clear hfs
    have l1 : (2 : Int) ≤ (t.length : Int) := by omega
    have l2 : (2 : Int) ≤ (cap : Int) := by omega
    by_cases h0 : fsz t = 0
    · rw [fst_f1 h0]
      rw [h0] at NR
      clear h h0 hs1 h2
      go_enter Try.func30, Try.ntmps30
      go_wp2_with (go_at_call 31; (with_reducible refine NR.out.mono ?_); rintro e w' ⟨rfl, rfl⟩)
      all_goals (go_ret2; exact ⟨none, 0, 0, rfl, (fun e => by cases e), Kpt.refl _⟩)
    · by_cases h3 : t.length < fsz t + 6
      · rw [fst_f2 h3]
        have m0 : IntKind.i64.wrap ((fsz t : Nat) : Int) = ((fsz t : Nat) : Int) := IntWalk.i64_in _ (by omega)
        have m1 : IntKind.i64.wrap (((fsz t : Nat) : Int) + 4) = ((fsz t : Nat) : Int) + 4 := IntWalk.i64_in _ (by omega)
        have y1 : (((fsz t : Nat) : Int) == 0) = false := beq_eq_false_iff_ne.2 (by omega)
        have y2 : decide (((t.length - 2 : Nat) : Int) < ((fsz t : Nat) : Int) + 4) = true := decide_eq_true (by omega)
        generalize fsz t = s at *
        clear h h0 hs1 h2 h3
        go_enter Try.func30, Try.ntmps30
        go_wp2_with (go_at_call 31; (with_reducible refine NR.out.mono ?_); rintro e w' ⟨rfl, rfl⟩)
        all_goals (go_ret2; exact ⟨none, 0, 0, rfl, (fun e => by cases e), Kpt.refl _⟩)
      · have hd := h.drop (n := 2) (by omega)
        have hl : (t.drop 2).length = t.length - 2 := List.length_drop
        have hb := hd.take (n := fsz t) (by omega)
        have hs := (hd.drop (n := fsz t) (by omega)).take (n := 4) (by rw [List.length_drop]; omega)
        rw [List.drop_drop] at hs
        have hbd : (t.drop 2).take (fsz t) = bdy t := rfl
        rw [hbd] at hb
        rw [fst_is (by omega) h0 (by omega)]
        have NS := Lib.hid (fun w' (k : Kpt w w') => number_run _ _ w' (hs.kpt k))
        have SR := Lib.hid (fun w' (k : Kpt w w') => sum_run g _ _ w' (RowW.kpt HR.out k) (hb.kpt k))
        have m0 : IntKind.i64.wrap ((fsz t : Nat) : Int) = ((fsz t : Nat) : Int) := IntWalk.i64_in _ (by omega)
        have m1 : IntKind.i64.wrap (((fsz t : Nat) : Int) + 4) = ((fsz t : Nat) : Int) + 4 := IntWalk.i64_in _ (by omega)
        have y1 : (((fsz t : Nat) : Int) == 0) = false := beq_eq_false_iff_ne.2 (by omega)
        have y2 : decide (((t.length - 2 : Nat) : Int) < ((fsz t : Nat) : Int) + 4) = false := decide_eq_false (by omega)
        have y3 : ¬ (cap = 2) := by omega
        have y4 : ¬ (cap - 2 = fsz t) := by omega
        have RB := Lib.hid hb
        have i1 : ((fsz t : Nat) : Int) ≤ ((cap - 2 : Nat) : Int) := by omega
        have i2 : ((fsz t : Nat) : Int) + 4 ≤ ((cap - 2 : Nat) : Int) := by omega
        generalize nub ((t.drop (2 + fsz t)).take 4) = q1 at NS ⊢
        generalize crc (bdy t) = q2 at SR ⊢
        generalize bdy t = bd at *
        generalize hfz : fsz t = s at *
        have HFZ := Lib.hid hfz
        clear hfz
        have y6 : s + 4 - s = 4 := by omega
        clear h h0 hs1 h2 h3 hd hl hb hs hbd
        by_cases hq : q1 = q2
        · rw [decide_eq_true hq]
          subst hq
          go_enter Try.func30, Try.ntmps30
          go_wp2_with (go_at_call 31; (with_reducible refine NR.out.mono ?_); rintro e w' ⟨rfl, rfl⟩)
          go_quiet (fail)
          go_wp2_with (first
            | (go_at_call 31; (with_reducible refine (NS.out _ ((Kpt.refl w).drewN _)).mono ?_); rintro e w' ⟨rfl, rfl⟩)
            | (go_at_call 21; (with_reducible refine (SR.out _ ((Kpt.refl w).drewN _)).mono ?_); rintro e w' ⟨rfl, rfl⟩))
          go_ret2
          exact ⟨_, _, _, rfl, (fun _ => ⟨_, _, _, rfl, rfl, HFZ.out.symm, rfl⟩), (Kpt.refl w).drewN _⟩
        · rw [decide_eq_false hq]
          have y7 : ((q1 : Int) == (q2 : Int)) = false := beq_eq_false_iff_ne.2 (by omega)
          clear hq
          go_enter Try.func30, Try.ntmps30
          go_wp2_with (go_at_call 31; (with_reducible refine NR.out.mono ?_); rintro e w' ⟨rfl, rfl⟩)
          go_quiet (fail)
          go_wp2_with (first
            | (go_at_call 31; (with_reducible refine (NS.out _ ((Kpt.refl w).drewN _)).mono ?_); rintro e w' ⟨rfl, rfl⟩)
            | (go_at_call 21; (with_reducible refine (SR.out _ ((Kpt.refl w).drewN _)).mono ?_); rintro e w' ⟨rfl, rfl⟩))
          go_ret2
          exact ⟨_, _, _, rfl, (fun e => by cases e), (Kpt.refl w).drewN _⟩

end Go.Proofs.Ytljdffkelocfbaa
