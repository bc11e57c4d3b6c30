/-
  Grid: what is done can be paid, first ones first; all together have as much.
-/
import Derived.Test.YtbfeojdlaajpdaaLawGN
import Derived.Test.YtbfeojdlaajpdaaGridS
import Derived.Test.YtbfeojdlaajpdaaBools
import Derived.BigQuiet
namespace Go.Proofs.Ytbfeojdlaajpdaa
open Go.RowKit
set_option linter.unusedVariables false

theorem fair_bad (v vl : Value) (has : List Int) (ps : List (Int × Int × Int)) (w : World) (hr : Reads w v has) (hp : ReadsP w vl ps) (hg : gridE has ps ≠ 0) :
    Calls Try.prog 4 #[v, vl] w fun e w' => e = .returned (.bool true) ∧ Kpt w w' := by
  have SB := Lib.hid (solve_bad v vl has ps w hr hp hg)
  have q : (gridE has ps != 0) = true := bne_iff_ne.2 hg
  clear hr hp
  generalize gridE has ps = E at *
  go_enter Try.func4, Try.ntmps4
  go_wp2_with (first
    | (go_at_call 14; (with_reducible refine SB.out.mono ?_); rintro e w1 ⟨rfl, k1⟩; have K1 := Lib.hid k1; clear k1)
    | (go_at_call 20; (with_reducible refine (gridBegun _).mono ?_); rintro e w2 ⟨rfl, k2⟩; have K2 := Lib.hid (ktr K1.out k2); clear k2))
  go_ret
  exact ⟨rfl, K2.out⟩

/-- what is settled, and After of it -/
theorem after_ok (v vl : Value) (has : List Int) (ps : List (Int × Int × Int)) (ds : List Nat) (g m cap : Nat) (w : World) (hr : Reads w v has) (hp : ReadsP w vl ps) (hg : gridE has ps = 0) (hm : m = ds.length) (ho : okD ps.length ds) (hn : ∀ q, q < 31 → ¬ (settleF ps has ds).getD q 0 < 0) (hd : OwnI w g (ints ds)) :
    Calls Try.prog 15 #[v, vl, .slice (some ⟨g, 0, none⟩) m cap] w fun e w' => ∃ g2 cap2, e = .returned (.tuple #[.slice (some ⟨g2, 0, none⟩) 31 cap2, .int .i64 0]) ∧ Hid (OwnI w' g2 (settleF ps has ds)) ∧ Hid (Kpt w w') := by
  have hl := hp.len
  unfold maxLen at hl
  have h60 := incN_len ho.1 ho.2 (Nat.zero_le _)
  have hrd := hd.reads (by rw [ints_len]; unfold maxLen; omega) cap
  rw [ints_len, ← hm] at hrd
  refine (after_ds v vl _ has ps ds w hr hp hrd hg ho.1 ho.2).mono ?_
  rintro e w' ⟨⟨h, _⟩ | ⟨_, g2, cap2, rfl, _, _, h⟩, hk⟩
  · have := (fair_sums hg ho.2 hn).2.2.2.2.2; omega
  · exact ⟨g2, cap2, rfl, h, hk⟩
theorem together_own {zs : List Int} {g cap : Nat} {w : World} (h31 : zs.length = 31) (hn : ∀ z ∈ zs, 0 ≤ z) {s : Int} (hs : zs.sum = s) (hb : s ≤ 4611686018427387904) (h : OwnI w g zs) :
    Calls Try.prog 23 #[.slice (some ⟨g, 0, none⟩) 31 cap] w fun e w' => e = .returned (.int .i64 s) ∧ Kpt w w' := by
  have := h.reads (by rw [h31]; unfold maxLen; omega) cap
  rw [h31] at this
  rw [← hs]
  exact together_kpt _ zs w this (by omega) hn (by omega)
/-- is it among the first k? -/
def inK (ds : List Nat) (k j : Nat) : Bool := decide (j ∈ ds.take k)
theorem inK_0 (ds : List Nat) (j : Nat) : (fun _ => false : Nat → Bool) j = inK ds 0 j := by simp [inK]
theorem inK_s {ds : List Nat} {k : Nat} (hk : k < ds.length) (j : Nat) : inK ds (k + 1) j = if j = ds.getD k 0 then true else inK ds k j := by
  unfold inK
  rw [List.take_add_one, List.getElem?_eq_getElem hk, List.getD_eq_getElem?_getD, List.getElem?_eq_getElem hk]
  simp only [List.mem_append, Option.toList_some, List.mem_singleton, Option.getD_some]
  by_cases h : j = ds[k]
  · rw [if_pos h, decide_eq_true (.inr h)]
  · rw [if_neg h]
    exact decide_eq_decide.2 ⟨fun h' => h'.resolve_right h, .inl⟩
theorem inK_all {ds : List Nat} {k : Nat} (hk : k = ds.length) (j : Nat) : inK ds k j = decide (j ∈ ds) := by
  subst hk; unfold inK; rw [List.take_length]

set_option maxHeartbeats 4000000 in
theorem fair_ok (v vl : Value) (has : List Int) (ps : List (Int × Int × Int)) (w : World) (hr : Reads w v has) (hp : ReadsP w vl ps) (hg : gridE has ps = 0) :
    Calls Try.prog 4 #[v, vl] w fun e w' => e = .returned (.bool true) ∧ Kpt w w' := by
  have S1 := Lib.hid (solve_ok v vl has ps (firsts ps) w hr hp hg (firsts_range ps) kept_firsts)
  have AF := Lib.hid (fun w' ds g m cap (k : Kpt w w') hm ho hn hd => after_ok v vl has ps ds g m cap w' (hr.kpt k) (hp.kpt k) hg hm ho hn hd)
  have FS := Lib.hid (fun ds hd h => fair_sums hg (ds := ds) hd h)
  have TG := Lib.hid (fun w' ds g cap (ho : okD ps.length ds) (hn : ∀ q, q < 31 → ¬ (settleF ps has ds).getD q 0 < 0) (h : OwnI w' g (settleF ps has ds)) => by
    obtain ⟨f1, f2, f3, f4, f5, f6⟩ := fair_sums hg ho.2 hn
    exact together_own (cap := cap) f3 f4 f5 f2 h)
  obtain ⟨h31, hz, h60, hdu, hs⟩ := grid_0 hg
  have TH := Lib.hid (fun w' (k : Kpt w w') => together_kpt v has w' (hr.kpt k) (by omega) (fun z h => (has_t (hz z h)).1) (by have := amt_t hs; have := (duesS_bd hdu).1; omega))
  obtain ⟨n, hn⟩ : ∃ n, n = ps.length := ⟨_, rfl⟩
  have HN := Lib.hid hn
  obtain ⟨pa, pcap, rfl, -, -, -, hpc⟩ := hp
  have HP := Lib.hid hpc
  rw [← hn] at h60 S1 AF TG HP ⊢
  clear hpc hr hg h31 hz hdu hs hn
  generalize has.sum = H at TG TH
  have zH : (H != H) = false := by simp
  go_enter Try.func4, Try.ntmps4
  go_wp2_with (first
    | (go_at_call 14; (with_reducible refine S1.out.mono ?_); rintro e w1 ⟨ds, g1, m1, cap1, rfl, HD, HO, k1⟩; have K1 := Lib.hid k1.out; have HO1 := Lib.hid HO.out.2; have HG1 := Lib.hid HO.out.1; clear k1)
    | (go_at_call 20; (with_reducible refine (gridBegun _).mono ?_); rintro e w2 ⟨rfl, k2⟩; have K2 := Lib.hid (ktr K1.out k2); have HO2 := Lib.hid (HO1.out.kpt k2); clear k2)
    | (go_at_call 15; (with_reducible refine (AF.out _ ds g1 m1 cap1 K2.out HD.out.1 HD.out.2.2.1 HD.out.2.2.2 HO2.out).mono ?_); rintro e w3 ⟨g2, cap2, rfl, HA, k3⟩; have K3 := Lib.hid (ktr K2.out k3.out); have HO3 := Lib.hid (HO2.out.kpt k3.out); clear k3)
    | (go_at_call 23; (with_reducible refine (TG.out _ ds g2 cap2 HD.out.2.2.1 HD.out.2.2.2 HA.out).mono ?_); rintro e w4 ⟨rfl, k4⟩; have K4 := Lib.hid (ktr K3.out k4); have HO4 := Lib.hid (HO3.out.kpt k4); clear k4)
    | (go_at_call 23; (with_reducible refine (TH.out _ K4.out).mono ?_); rintro e w5 ⟨rfl, k5⟩; have K5 := Lib.hid (ktr K4.out k5); have HO5 := Lib.hid (HO4.out.kpt k5); have MK := run_falses w5 n (by omega); have RB := Lib.hid (OwnB.made w5 n); clear k5))
  have K6 := Lib.hid (K5.out.alloc (.cells (Array.replicate n (Value.bool false)) 4))
  have HO6 := Lib.hid (HO5.out.alloc (.cells (Array.replicate n (Value.bool false)) 4))
  have HGB : Hid (w.heap.size ≤ w5.heap.size) := K5.out.size
  have HNE : Hid (g1 ≠ w5.heap.size) := by have := HO5.out.lt; unfold Hid; omega
  have HM1 : Hid (m1 = ds.length) := HD.out.1
  have hm60 : m1 ≤ 60 := by have := incN_len HD.out.2.2.1.up HD.out.2.2.1.lt (Nat.zero_le _); have := HD.out.1; have := HN.out; omega
  have DI : Hid (∀ k, k < m1 → ds.getD k 0 < n) := fun k hk => by
    refine HD.out.2.2.1.lt _ ?_
    rw [HD.out.1] at hk
    rw [List.getD_eq_getElem?_getD, List.getElem?_eq_getElem hk]; simp
  clear MK
  generalize w5.heap.size = gB at *
  go_loopw [10] (fun ii wr => ∃ k : Nat, k ≤ m1 ∧ ii = .int .i64 (k : Int) ∧ Hid (OwnB wr gB n (inK ds k)) ∧ Hid (OwnI wr g1 (ints ds)) ∧ Hid (Kpt w wr)) (fun ii _ => m1 - (intOf ii).toNat)
  case atStart => exact ⟨0, Nat.zero_le _, rfl, RB.out.to fun j _ => inK_0 ds j, HO6.out, K6.out⟩
  case round =>
    obtain ⟨k, hk, rfl, HB, HI, HK⟩ := hrel
    by_cases hlt : k < m1
    · have c1 := HI.out.cell (j := k) (by rw [ints_len, ← HM1.out]; exact hlt)
      rw [cast_at] at c1
      have hx := DI.out k hlt
      have HS := Lib.hid (fun j => inK_s (by rw [← HM1.out]; exact hlt : k < ds.length) j)
      generalize ds.getD k 0 = x at c1 hx HS
      have f0 := HB.out.frozen x
      have c2 := HB.out.cell hx
      generalize inK ds k x = bx at c2
      have HB' := Lib.hid (HB.out.put x true (q := inK ds (k + 1)) (fun j _ => HS.out j))
      have HI' := Lib.hid (HI.out.away (p := ⟨gB, x, none⟩) HNE.out (.bool true))
      have HK' := Lib.hid (Kpt.setCell HK.out HGB.out (p := ⟨gB, x, none⟩) (.bool true))
      go_wp2
      go_roundw
      case rel => exact ⟨k + 1, by omega, by go_num, HB'.out, HI'.out, HK'.out⟩
      case measure => simp [intOf]; omega
    · obtain rfl : k = m1 := by omega
      have HB1 : Hid (OwnB wr gB n (fun j => decide (j ∈ ds))) := HB.out.to fun j _ => inK_all HM1.out j
      have FF : Hid (firsts ps ds) := HD.out.2.1
      clear HB
      go_wp2
      go_loopw [11] (fun ii wr => ∃ i : Nat, i ≤ n ∧ ii = .int .i64 (i : Int) ∧ Hid (OwnB wr gB n (fun j => decide (j ∈ ds))) ∧ Hid (Kpt w wr)) (fun ii _ => n - (intOf ii).toNat)
      case atStart => exact ⟨0, Nat.zero_le _, rfl, HB1.out, HK.out⟩
      case round =>
        obtain ⟨i, hi, rfl, HB2, HK2⟩ := hrel
        by_cases hlt2 : i < n
        · obtain ⟨x, off, rfl, -⟩ := HP.out i hlt2
          have HQ : Hid (∀ j, j < n → PtAt w x (off + j * 3) (ps.getD j default)) := fun j hj => by
            obtain ⟨b', off', e, h'⟩ := HP.out j hj
            simp only [Option.some.injEq, Addr.mk.injEq] at e
            obtain ⟨rfl, rfl, -⟩ := e
            exact h'
          go_wp2
          go_loopw [12] (fun kk wr => ∃ k : Nat, k ≤ i ∧ kk = .int .i64 (k : Int) ∧ Hid (OwnB wr gB n (fun j => decide (j ∈ ds))) ∧ Hid (Kpt w wr)) (fun kk _ => i - (intOf kk).toNat)
          case atStart => exact ⟨0, Nat.zero_le _, rfl, HB2.out, HK2.out⟩
          case round =>
            obtain ⟨k', hk', rfl, HB3, HK3⟩ := hrel
            by_cases hlt3 : k' < i
            · have b1 := HB3.out.cell hlt2
              have b2 := HB3.out.cell (show k' < n by omega)
              have d1 := ((HQ.out i hlt2).kpt HK3.out).1
              have d2 := ((HQ.out k' (by omega)).kpt HK3.out).1
              have kn : (k' : Int) < (n : Int) := by omega
              have il : decide ((i : Int) < (n : Int)) = true := decide_eq_true (by omega)
              have kl : decide ((k' : Int) < (i : Int)) = true := decide_eq_true (by omega)
              by_cases h1 : i ∈ ds
              · rw [decide_eq_true h1] at b1
                by_cases h2 : k' ∈ ds
                · rw [decide_eq_true h2] at b2
                  clear d1 d2 h1 h2
                  go_wp2
                  go_quiet (fail)
                  go_wp2
                  go_roundw
                  case rel => exact ⟨k' + 1, by omega, by go_num, HB3.out.kpt ((Kpt.refl _).drewN _), HK3.out.drewN _⟩
                  case measure => simp [intOf]; omega
                · rw [decide_eq_false h2] at b2
                  have hf := fun e => h2 (FF.out i k' h1 hlt3 e)
                  generalize (ps.getD i default).1 = y1 at d1 hf
                  generalize (ps.getD k' default).1 = y2 at d2 hf
                  have z1 : (y2 == y1) = false := beq_eq_false_iff_ne.2 hf
                  clear h1 h2 hf
                  go_wp2
                  go_quiet (fail)
                  go_wp2
                  go_roundw
                  case rel => exact ⟨k' + 1, by omega, by go_num, HB3.out.kpt ((Kpt.refl _).drewN _), HK3.out.drewN _⟩
                  case measure => simp [intOf]; omega
              · rw [decide_eq_false h1] at b1
                clear d1 d2 h1
                go_wp2
                go_quiet (fail)
                go_wp2
                go_roundw
                case rel => exact ⟨k' + 1, by omega, by go_num, HB3.out.kpt ((Kpt.refl _).drewN _), HK3.out.drewN _⟩
                case measure => simp [intOf]; omega
            · go_wp2
              go_roundw
              case rel => exact ⟨i + 1, by omega, by go_num, HB3.out, HK3.out⟩
              case measure => simp [intOf]; omega
        · go_wp2
          go_ret
          exact ⟨rfl, HK2.out⟩

theorem gridFair_walk (v vl : Value) (has : List Int) (ps : List (Int × Int × Int)) (w : World) (hr : Reads w v has) (hp : ReadsP w vl ps) :
    Calls Try.prog 4 #[v, vl] w fun e w' => e = .returned (.bool true) ∧ Kpt w w' := by
  by_cases hg : gridE has ps = 0
  · exact fair_ok v vl has ps w hr hp hg
  · exact fair_bad v vl has ps w hr hp hg

end Go.Proofs.Ytbfeojdlaajpdaa
