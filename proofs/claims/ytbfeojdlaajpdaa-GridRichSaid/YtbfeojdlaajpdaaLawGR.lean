/-
  Grid: a ring of as much from each to the next one is done without any money; without one of them, none is.
-/
import Derived.Test.YtbfeojdlaajpdaaLawGO
import Derived.Test.YtbfeojdlaajpdaaGridRing
import Derived.Test.YtbfeojdlaajpdaaDueApp
namespace Go.Proofs.Ytbfeojdlaajpdaa
open Go.RowKit
set_option linter.unusedVariables false

theorem ring_out (many amount out : Int) (w : World) (hx : many < 2 ∨ 31 < many ∨ amount < 1 ∨ 1000000 < amount) :
    Calls Try.prog 6 #[.int .i64 many, .int .i64 amount, .int .i64 out] w fun e w' => e = .returned (.bool true) ∧ Kpt w w' := by
  go_enter Try.func6, Try.ntmps6
  by_cases x1 : many < 2
  · have y1 : decide (many < 2) = true := decide_eq_true x1
    clear hx
    go_wp2_with (go_at_call 20; (with_reducible refine (gridBegun _).mono ?_); rintro e w2 ⟨rfl, k2⟩; have K2 := Lib.hid k2; clear k2)
    go_ret
    exact ⟨rfl, K2.out⟩
  have y1 : decide (many < 2) = false := decide_eq_false x1
  by_cases x2 : 31 < many
  · have y2 : decide (31 < many) = true := decide_eq_true x2
    clear hx
    go_wp2_with (go_at_call 20; (with_reducible refine (gridBegun _).mono ?_); rintro e w2 ⟨rfl, k2⟩; have K2 := Lib.hid k2; clear k2)
    go_ret
    exact ⟨rfl, K2.out⟩
  have y2 : decide (31 < many) = false := decide_eq_false x2
  by_cases x3 : amount < 1
  · have y3 : decide (amount < 1) = true := decide_eq_true x3
    clear hx
    go_wp2_with (go_at_call 20; (with_reducible refine (gridBegun _).mono ?_); rintro e w2 ⟨rfl, k2⟩; have K2 := Lib.hid k2; clear k2)
    go_ret
    exact ⟨rfl, K2.out⟩
  have y3 : decide (amount < 1) = false := decide_eq_false x3
  have x4 : 1000000 < amount := by omega
  have y4 : decide (1000000 < amount) = true := decide_eq_true x4
  clear hx
  go_wp2_with (go_at_call 20; (with_reducible refine (gridBegun _).mono ?_); rintro e w2 ⟨rfl, k2⟩; have K2 := Lib.hid k2; clear k2)
  go_ret
  exact ⟨rfl, K2.out⟩

theorem OwnI.zero {w : World} {g : Nat} (h : Row w g (List.replicate 31 0)) : OwnI w g (List.replicate 31 0) := by
  refine ⟨((List.replicate 31 (0 : Int)).map (Value.int .i64)).toArray, h, by simp, fun j hj => ?_⟩
  rw [List.getElem?_toArray]
  exact getD_map _ j hj
theorem OwnI.sl31 {w : World} {g : Nat} {zs : List Int} (h : OwnI w g zs) (h31 : zs.length = 31) (cap : Nat) : Reads w (.slice (some ⟨g, 0, none⟩) 31 cap) zs := by
  have := h.reads (by rw [h31]; unfold maxLen; omega) cap
  rwa [h31] at this
/-- where nobody is short with all done, all are done -/
theorem solve_all (v vl : Value) (has : List Int) (ps : List (Int × Int × Int)) (n : Nat) (w : World) (hr : Reads w v has) (hp : ReadsP w vl ps) (hg : gridE has ps = 0) (hn : n = ps.length) (h : nobody has ps (List.range ps.length)) :
    Calls Try.prog 14 #[v, vl] w fun e w' => ∃ g cap, e = .returned (.tuple #[.slice (some ⟨g, 0, none⟩) n cap, .int .i64 0]) ∧ Hid (w.heap.size ≤ g ∧ OwnI w' g (ints (List.range n))) ∧ Hid (Kpt w w') := by
  refine (solve_ok v vl has ps (fun ds => ds = List.range ps.length) w hr hp hg rfl ?_).mono ?_
  · rintro ds q k rfl _ h1 h2 _ _ _
    exact absurd h2 (h q h1)
  · rintro e w' ⟨ds, g, m, cap, rfl, HD, HO, hk⟩
    obtain ⟨e1, rfl, -⟩ := HD.out
    rw [List.length_range] at e1
    subst e1
    subst hn
    exact ⟨g, cap, rfl, HO, hk⟩
/-- where something is done somebody is short: none is done -/
theorem solve_none (v vl : Value) (has : List Int) (ps : List (Int × Int × Int)) (w : World) (hr : Reads w v has) (hp : ReadsP w vl ps) (hg : gridE has ps = 0) (h : ∀ ds, (∀ i ∈ ds, i < ps.length) → nobody has ps ds → ds = []) :
    Calls Try.prog 14 #[v, vl] w fun e w' => ∃ g cap, e = .returned (.tuple #[.slice (some ⟨g, 0, none⟩) 0 cap, .int .i64 0]) ∧ Hid (Kpt w w') := by
  refine (solve_ok v vl has ps (fun _ => True) w hr hp hg trivial (fun _ _ _ _ _ _ _ _ _ _ => trivial)).mono ?_
  rintro e w' ⟨ds, g, m, cap, rfl, HD, HO, hk⟩
  obtain ⟨e1, -, h2, h3⟩ := HD.out
  obtain rfl := h ds h2.2 h3
  subst e1
  exact ⟨g, cap, rfl, hk⟩

theorem ring_in' {m : Nat} {n : Int} {l : List (Int × Int × Int)} (hm : 2 ≤ m) (hm1 : m ≤ 31) (hn : 1 ≤ n) (hn1 : n ≤ 1000000) (h : ∀ p ∈ l, ∃ i, i < m ∧ p = rE m n i) : InP l := fun p hp => by
  obtain ⟨i, hi, rfl⟩ := h p hp
  have := due_t (rE_due hm hm1 hn hn1 hi).1
  omega

set_option maxHeartbeats 8000000 in
theorem ring_go (m : Nat) (n out : Int) (w : World) (hm : 2 ≤ m) (hm1 : m ≤ 31) (hn : 1 ≤ n) (hn1 : n ≤ 1000000) :
    Calls Try.prog 6 #[.int .i64 (m : Int), .int .i64 n, .int .i64 out] w fun e w' => e = .returned (.bool true) ∧ Kpt w w' := by
  have SA := Lib.hid (fun w' g vl (hh : OwnI w' g (List.replicate 31 0)) (B : Nat) (ho : OwnsT 38 w' B vl (ringL m n m)) =>
    solve_all _ vl (List.replicate 31 0) (ringL m n m) m w' (hh.sl31 (by simp) 31) (ho.reads (ring_in' hm hm1 hn hn1 fun p hp => ring_mem hp))
      (ring_ok hm hm1 hn hn1 (by rw [ring_len]; exact Nat.le_refl _) fun p hp => ring_mem hp) (ring_len m n m).symm (fun q hq => by rw [ring_fair hm hm1 hn hn1 q hq]; omega))
  have SN := Lib.hid (fun (h0 : 0 ≤ out) (h1 : out < (m : Int)) w' g vl (hh : OwnI w' g (List.replicate 31 0)) (B : Nat) (ho : OwnsT 38 w' B vl (lessL m n out m)) =>
    solve_none _ vl (List.replicate 31 0) (lessL m n out m) w' (hh.sl31 (by simp) 31) (ho.reads (ring_in' hm hm1 hn hn1 fun p hp => by obtain ⟨i, a, _, b⟩ := less_mem hp; exact ⟨i, a, b⟩))
      (ring_ok hm hm1 hn hn1 (less_len m n out m) fun p hp => by obtain ⟨i, a, _, b⟩ := less_mem hp; exact ⟨i, a, b⟩) (fun ds hd h => less_none hm hm1 hn hn1 h0 h1 hd h))
  have y1 : decide ((m : Int) < 2) = false := decide_eq_false (by omega)
  have y2 : decide (31 < (m : Int)) = false := decide_eq_false (by omega)
  have y3 : decide (n < 1) = false := decide_eq_false (by omega)
  have y4 : decide (1000000 < n) = false := decide_eq_false (by omega)
  have y5 : decide (31 < m) = false := decide_eq_false (by omega)
  have y6 : decide (m < 2) = false := decide_eq_false (by omega)
  go_enter Try.func6, Try.ntmps6
  go_wp2_with (go_at_call 20; (with_reducible refine (gridBegun _).mono ?_); rintro e w2 ⟨rfl, k2⟩; have K2 := Lib.hid k2; have RA := Lib.hid (Row.made w2 31); have MK := run_zeros w2 31 (by omega); rw [show ((31 : Nat) : Int) = 31 from rfl] at MK; clear k2)
  have K3 := Lib.hid (K2.out.alloc (.cells (Array.replicate 31 (Value.int .i64 0)) 3))
  have HA3 : Hid (OwnI (w2.alloc (.cells (Array.replicate 31 (Value.int .i64 0)) 3)) w2.heap.size (List.replicate 31 0)) := OwnI.zero RA.out
  have HGA : Hid (w.heap.size ≤ w2.heap.size) := K2.out.size
  clear MK RA
  generalize w2.heap.size = gA at *
  go_loopw [8, 9, 10] (fun lv uv ii wr => ∃ k : Nat, k ≤ m ∧ ii = .int .i64 (k : Int) ∧ Hid (OwnsT 38 wr (gA + 1) lv (ringL m n k)) ∧ Hid (OwnsT 38 wr (gA + 1) uv (lessL m n out k)) ∧ Hid (Apart uv lv ∧ Apart lv uv) ∧ Hid (OwnI wr gA (List.replicate 31 0)) ∧ Hid (Kpt w wr)) (fun _ _ ii _ => m - (intOf ii).toNat)
  case atStart => exact ⟨0, Nat.zero_le _, rfl, OwnsT.nil _ _ _, OwnsT.nil _ _ _, ⟨.inl rfl, .inl rfl⟩, HA3.out, K3.out⟩
  case round =>
    obtain ⟨k, hk, rfl, HL, HU, HAP, HA, HK⟩ := hrel
    by_cases hlt : k < m
    · have hk31 : k < 31 := by omega
      have hm0 : ¬ (m : Int) = 0 := by omega
      have hm2 : ¬ m = 0 := by omega
      have hll := less_len m n out k
      obtain ⟨T, eT, hT0, hT1⟩ : ∃ T, ((k : Int) + 1).tmod (m : Int) = T ∧ 0 ≤ T ∧ T ≤ 30 := ⟨_, rfl, by rw [nxt_eq hlt]; split <;> omega, by rw [nxt_eq hlt]; split <;> omega⟩
      have ER : Hid (rE m n k = ((k : Int), T, n)) := by unfold Hid rE; rw [eT]
      have HRS : Hid (ringL m n k ++ [((k : Int), T, n)] = ringL m n (k + 1)) := by unfold Hid; rw [← ER.out]; exact (ring_s m n k).symm
      by_cases ho : (k : Int) = out
      · have z1 : ((k : Int) != out) = false := by rw [ho]; simp
        have HUS : Hid (lessL m n out (k + 1) = lessL m n out k) := less_t ho
        clear ho
        go_wp2_with (at_builtin; refine wp_appendD rfl (.tmp 37) (.tmp 45) rfl (gA + 1) _ _ (k : Int) T n _ rfl HL.out rfl (by rw [ring_len]; omega) HA.out.lt _ _ HU.out HAP.out.1 ?_; intro v' w' h1 h2 h3 h4 h5; rw [HRS.out] at h1; have HL' := Lib.hid h1; have HU' := Lib.hid h3; have HAP' := Lib.hid (And.intro h4 h5); have HA' : Hid (OwnI w' gA (List.replicate 31 0)) := HA.out.block (h2.block gA (Nat.lt_succ_self _)); have HK' : Hid (Kpt w w') := Below.trans HK.out (h2.mono (by have := HGA.out; omega)); clear h1 h2 h3 h4 h5)
        go_roundw
        case rel => exact ⟨k + 1, by omega, by go_num, HL'.out, by unfold Hid; rw [HUS.out]; exact HU'.out, HAP'.out, HA'.out, HK'.out⟩
        case measure => simp [intOf]; omega
      · have z1 : ((k : Int) != out) = true := bne_iff_ne.2 ho
        have HUS : Hid (lessL m n out k ++ [((k : Int), T, n)] = lessL m n out (k + 1)) := by unfold Hid; rw [← ER.out]; exact (less_f ho).symm
        clear ho
        go_wp2_with (first
          | (at_builtin; refine wp_appendD rfl (.tmp 37) (.tmp 45) rfl (gA + 1) _ _ (k : Int) T n _ rfl HL.out rfl (by rw [ring_len]; omega) HA.out.lt _ _ HU.out HAP.out.1 ?_; intro v' w' h1 h2 h3 h4 h5; rw [HRS.out] at h1; obtain ⟨blk, cap', rfl, _⟩ := h1.filled (by rw [ring_len]; omega); rw [ring_len] at h1 h4 h5 ⊢; have ec := (h1.at_ k (by rw [ring_len]; omega)).1; rw [ring_get (Nat.lt_succ_self k)] at ec; rw [ER.out] at ec; obtain ⟨c0, c1, c2⟩ := ec; simp only at c0 c1 c2; have HL' := Lib.hid h1; have HU' := Lib.hid h3; have HAP' := Lib.hid (And.intro h4 h5); have HA' : Hid (OwnI w' gA (List.replicate 31 0)) := HA.out.block (h2.block gA (Nat.lt_succ_self _)); have HK' : Hid (Kpt w w') := Below.trans HK.out (h2.mono (by have := HGA.out; omega)); clear h1 h2 h3 h4 h5)
          | (at_builtin; refine wp_appendD rfl (.tmp 50) (.tmp 55) rfl (gA + 1) _ _ (k : Int) T n _ rfl HU'.out rfl (by omega) HA'.out.lt _ _ HL'.out HAP'.out.2 ?_; intro v2 w2' h1 h2 h3 h4 h5; rw [HUS.out] at h1; have HL2 := Lib.hid h3; have HU2 := Lib.hid h1; have HAP2 := Lib.hid (And.intro h5 h4); have HA2 : Hid (OwnI w2' gA (List.replicate 31 0)) := HA'.out.block (h2.block gA (Nat.lt_succ_self _)); have HK2 : Hid (Kpt w w2') := Below.trans HK'.out (h2.mono (by have := HGA.out; omega)); clear h1 h2 h3 h4 h5))
        go_roundw
        case rel => exact ⟨k + 1, by omega, by go_num, HL2.out, HU2.out, HAP2.out, HA2.out, HK2.out⟩
        case measure => simp [intOf]; omega
    · obtain rfl : k = m := by omega
      obtain ⟨la, lcap, el⟩ := HL.out.form
      rw [ring_len] at el
      subst el
      obtain ⟨ua, un, ucap, rfl, HUN⟩ := HU.out.formN
      have SA' := Lib.hid (fun w' (hk' : Kpt wr w') => SA.out w' gA _ (HA.out.kpt hk') _ (HL.out.kpt hk'))
      have mz : decide ((k : Int) = 0) = false := decide_eq_false (by omega)
      have kk : ((k : Int) == (k : Int)) = true := by simp
      have k0 : ((k : Int) == 0) = false := beq_eq_false_iff_ne.2 (by omega)
      by_cases hin : 0 ≤ out ∧ out < (k : Int)
      · have SN' := Lib.hid (fun w' (hk' : Kpt wr w') => SN.out hin.1 hin.2 w' gA _ (HA.out.kpt hk') _ (HU.out.kpt hk'))
        clear hin SA SN
        go_wp2_with (first
          | (go_at_call 14; (with_reducible refine (SA'.out _ (Kpt.refl _)).mono ?_); rintro e w4 ⟨g4, cap4, rfl, _, k4⟩; have J4 := Lib.hid k4.out; have K4 := Lib.hid (ktr HK.out k4.out); clear k4)
          | (go_at_call 14; (with_reducible refine (SN'.out _ J4.out).mono ?_); rintro e w5 ⟨g5, cap5, rfl, k5⟩; have K5 := Lib.hid (ktr K4.out k5.out); clear k5))
        go_ret
        exact ⟨rfl, K5.out⟩
      · have eL : lessL k n out k = ringL k n k := less_all (by omega)
        rw [eL] at HU HUN
        have hun : un = k := by have := HUN.out; rwa [ring_len] at this
        subst hun
        have SN' := Lib.hid (fun w' (hk' : Kpt wr w') => SA.out w' gA _ (HA.out.kpt hk') _ (HU.out.kpt hk'))
        clear hin SA SN eL HUN
        go_wp2_with (first
          | (go_at_call 14; (with_reducible refine (SA'.out _ (Kpt.refl _)).mono ?_); rintro e w4 ⟨g4, cap4, rfl, _, k4⟩; have J4 := Lib.hid k4.out; have K4 := Lib.hid (ktr HK.out k4.out); clear k4)
          | (go_at_call 14; (with_reducible refine (SN'.out _ J4.out).mono ?_); rintro e w5 ⟨g5, cap5, rfl, _, k5⟩; have K5 := Lib.hid (ktr K4.out k5.out); clear k5))
        go_ret
        exact ⟨rfl, K5.out⟩

theorem gridRing_walk (many amount out : Int) (w : World) :
    Calls Try.prog 6 #[.int .i64 many, .int .i64 amount, .int .i64 out] w fun e w' => e = .returned (.bool true) ∧ Kpt w w' := by
  by_cases hx : many < 2 ∨ 31 < many ∨ amount < 1 ∨ 1000000 < amount
  · exact ring_out many amount out w hx
  · obtain ⟨m, rfl⟩ : ∃ m : Nat, many = (m : Int) := ⟨many.toNat, by omega⟩
    exact ring_go m amount out w (by omega) (by omega) (by omega) (by omega)

end Go.Proofs.Ytbfeojdlaajpdaa
