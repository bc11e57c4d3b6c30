/-
  Grid: of all that could be paid at once, first ones first, nothing is left out.
-/
import Derived.Test.YtbfeojdlaajpdaaLawGF
import Derived.Test.YtbfeojdlaajpdaaGridSel
namespace Go.Proofs.Ytbfeojdlaajpdaa
open Go.RowKit
set_option linter.unusedVariables false

theorem Owns.away {w : World} {base : Nat} {v : Value} {zs : List Int} (h : Owns w base v zs) {p : Addr} (hp : p.block < base) (u : Value) : Owns (w.setCell p u) base v zs := by
  obtain ⟨h1, h2⟩ := h
  refine ⟨h1, ?_⟩
  rcases h2 with h2 | ⟨k, cap, cur, e, hk, hh, r⟩
  · exact .inl h2
  · exact .inr ⟨k, cap, cur, e, hk, (Below.heap_setCell w p u k (by omega)).trans hh, r⟩
theorem Owns.kp {w w' : World} {base : Nat} {v : Value} {zs : List Int} (h : Owns w base v zs) (g : Kpt w w') : Owns w' base v zs := h.below g (Nat.le_refl _)
theorem Reads.sl {w : World} {a : Option Addr} {n cap : Nat} {zs : List Int} (h : Reads w (.slice a n cap) zs) : ∀ k, k < zs.length → ∃ b off, a = some ⟨b, off, none⟩ ∧ w.cell? ⟨b, off + k, none⟩ = some (.int .i64 (zs.getD k 0)) := by
  obtain ⟨a', cap', e, hm, hc⟩ := h
  simp only [Value.slice.injEq] at e
  obtain ⟨rfl, _, _⟩ := e
  exact hc
theorem Reads.sln {w : World} {a : Option Addr} {n cap : Nat} {zs : List Int} (h : Reads w (.slice a n cap) zs) : zs.length = n := by
  obtain ⟨a', cap', e, hm, hc⟩ := h
  simp only [Value.slice.injEq] at e
  exact e.2.1.symm

theorem most_bad (v vl vm : Value) (has : List Int) (ps : List (Int × Int × Int)) (w : World) (hr : Reads w v has) (hp : ReadsP w vl ps) (hg : gridE has ps ≠ 0) :
    Calls Try.prog 5 #[v, vl, vm] w fun e w' => e = .returned (.bool true) ∧ Kpt w w' := by
  have SB := Lib.hid (solve_bad v vl has ps w hr hp hg)
  have q : (gridE has ps != 0) = true := bne_iff_ne.2 hg
  clear hr hp
  generalize gridE has ps = E at *
  go_enter Try.func5, Try.ntmps5
  go_wp2_with (first
    | (go_at_call 14; (with_reducible refine SB.out.mono ?_); rintro e w1 ⟨rfl, k1⟩; have K1 := Lib.hid k1; clear k1)
    | (go_at_call 20; (with_reducible refine (gridBegun _).mono ?_); rintro e w2 ⟨rfl, k2⟩; have K2 := Lib.hid (ktr K1.out k2); clear k2))
  go_ret
  exact ⟨rfl, K2.out⟩

/-- nobody is short when these are settled -/
def nobody (has : List Int) (ps : List (Int × Int × Int)) (S : List Nat) : Prop := ∀ q, q < 31 → ¬ (settleF ps has S).getD q 0 < 0
theorem most_after (v vl vd : Value) (has : List Int) (ps : List (Int × Int × Int)) (S : List Nat) (w : World) (hr : Reads w v has) (hp : ReadsP w vl ps) (hg : gridE has ps = 0) (ho : okD ps.length S) (hd : Reads w vd (ints S)) :
    (nobody has ps S → Calls Try.prog 15 #[v, vl, vd] w fun e w' => (∃ a, e = .returned (.tuple #[a, .int .i64 0])) ∧ Kpt w w') ∧
    (¬ nobody has ps S → Calls Try.prog 15 #[v, vl, vd] w fun e w' => (∃ a, e = .returned (.tuple #[a, .int .i64 8])) ∧ Kpt w w') := by
  have h := after_ds v vl vd has ps S w hr hp hd hg ho.1 ho.2
  obtain ⟨h31, -⟩ := grid_0 hg
  have hl := (settle_len ps S has).trans h31
  refine ⟨fun hn => h.mono ?_, fun hn => h.mono ?_⟩
  · rintro e w' ⟨⟨h1, _⟩ | ⟨_, g, cap, rfl, _⟩, hk⟩
    · have := negI_none hl hn; omega
    · exact ⟨⟨_, rfl⟩, hk⟩
  · rintro e w' ⟨⟨_, rfl⟩ | ⟨h1, _⟩, hk⟩
    · exact ⟨⟨_, rfl⟩, hk⟩
    · refine absurd (fun q hq => ?_) hn
      rcases negI_cases (settleF ps has S) with ⟨_, h2⟩ | ⟨k, _, h2, _⟩
      · exact h2 q (by omega)
      · omega

set_option maxHeartbeats 8000000 in
theorem most_ok (v vl vm : Value) (has : List Int) (ps : List (Int × Int × Int)) (ms : List Int) (w : World) (hr : Reads w v has) (hp : ReadsP w vl ps) (hm : Reads w vm ms) (hg : gridE has ps = 0) :
    Calls Try.prog 5 #[v, vl, vm] w fun e w' => e = .returned (.bool true) ∧ Kpt w w' := by
  have S1 := Lib.hid (solve_ok v vl has ps (fun ds => nobody has ps (selN ps ms ps.length) → ∀ i ∈ selN ps ms ps.length, i ∈ ds) w hr hp hg
    (fun _ i hi => List.mem_range.2 ((sel_ok ps ms).2 i hi)) (fun ds q k h a b c d e f hN => kept_max hg (sel_ok ps ms) (sel_firsts ps ms) hN ds q k (h hN) a b c d e f))
  have AF := Lib.hid (fun w' vd (k : Kpt w w') hd => most_after v vl vd has ps (selN ps ms ps.length) w' (hr.kpt k) (hp.kpt k) hg (sel_ok ps ms) hd)
  obtain ⟨h31, -, h60, hdu, -⟩ := grid_0 hg
  have HDU : Hid (∀ k, k < ps.length → ∃ f : Nat, f < 31 ∧ (ps.getD k default).1 = (f : Int)) := fun k hk => by
    have := due_t (hdu _ (getP_mem hk)).1
    exact ⟨(ps.getD k default).1.toNat, by omega, by omega⟩
  have SL := Lib.hid (fun k => sel_len ps ms k)
  have CL := Lib.hid (fun q k => cntP_le ps q k)
  have hml := hm.len
  unfold maxLen at hml
  obtain ⟨am, capm, rfl, -⟩ := id hm
  have HMC := Lib.hid hm.sl
  obtain ⟨n, hn⟩ : ∃ n, n = ps.length := ⟨_, rfl⟩
  obtain ⟨mn, hmn⟩ : ∃ mn, mn = ms.length := ⟨_, rfl⟩
  have HMN := Lib.hid hmn
  obtain ⟨pa, pcap, rfl, -, -, -, hpc⟩ := hp
  have HP := Lib.hid hpc
  rw [← hn] at h60 S1 AF HP HDU ⊢
  rw [← hmn] at HMC hml ⊢
  have hn' := hn
  clear hpc hr hg h31 hdu hn hmn hm hn'
  go_enter Try.func5, Try.ntmps5
  go_wp2_with (first
    | (go_at_call 14; (with_reducible refine S1.out.mono ?_); rintro e w1 ⟨ds, g1, m1, cap1, rfl, HD, HO, k1⟩; have K1 := Lib.hid k1.out; have HO1 := Lib.hid HO.out.2; clear k1)
    | (go_at_call 20; (with_reducible refine (gridBegun _).mono ?_); rintro e w2 ⟨rfl, k2⟩; have K2 := Lib.hid (ktr K1.out k2); have HO2 := Lib.hid (HO1.out.kpt k2); have RA := Lib.hid (Row.made w2 31); have MK := run_zeros w2 31 (by omega); rw [show ((31 : Nat) : Int) = 31 from rfl] at MK; clear k2))
  have K3 := Lib.hid (K2.out.alloc (.cells (Array.replicate 31 (Value.int .i64 0)) 3))
  have HO3 := Lib.hid (HO2.out.alloc (.cells (Array.replicate 31 (Value.int .i64 0)) 3))
  have HA3 : Hid (OwnI (w2.alloc (.cells (Array.replicate 31 (Value.int .i64 0)) 3)) w2.heap.size (atN ps 0)) := by
    unfold Hid
    rw [atN_zero]
    refine ⟨((List.replicate 31 (0 : Int)).map (Value.int .i64)).toArray, RA.out, by simp, fun j hj => ?_⟩
    rw [List.getElem?_toArray]
    exact getD_map _ j hj
  have HGA : Hid (w.heap.size ≤ w2.heap.size) := K2.out.size
  have HG1 : Hid (g1 < w2.heap.size) := HO2.out.lt
  have HM1 : Hid (m1 = ds.length) := HD.out.1
  have hm60 : m1 ≤ 60 := by have := incN_len HD.out.2.2.1.up HD.out.2.2.1.lt (Nat.zero_le _); have := HD.out.1; omega
  clear MK RA
  generalize w2.heap.size = gA at *
  go_loopw [9, 11] (fun sv ii wr => ∃ i : Nat, i ≤ n ∧ ii = .int .i64 (i : Int) ∧ Hid (Owns wr (gA + 1) sv (ints (selN ps ms i))) ∧ Hid (OwnI wr gA (atN ps i)) ∧ Hid (OwnI wr g1 (ints ds)) ∧ Hid (Kpt w wr)) (fun _ ii _ => n - (intOf ii).toNat)
  case atStart => exact ⟨0, Nat.zero_le _, rfl, Owns.nil _ _, HA3.out, HO3.out, K3.out⟩
  case round =>
    obtain ⟨i, hi, rfl, HS, HA, HI, HK⟩ := hrel
    by_cases hlt : i < n
    · obtain ⟨x, off, rfl, hpt⟩ := HP.out i hlt
      have d1 := (hpt.kpt HK.out).1
      obtain ⟨f, hf, ef⟩ := HDU.out i hlt
      rw [ef] at d1
      have ca := HA.out.cell (j := f) (by rw [atN_len]; exact hf)
      have fa := HA.out.frozen f
      have AG := Lib.hid (atN_get ps i f hf)
      rw [AG.out] at ca
      have AS := Lib.hid (atN_set ps i f hf ef)
      have c60 := CL.out f i
      have PK : Hid (pickB ps ms i = decide ((f : Int) < (mn : Int) ∧ (cntP ps f i : Int) < ms.getD f 0)) := by unfold Hid pickB; rw [ef, ← HMN.out, Int.toNat_natCast]
      have hsl := SL.out i
      clear ef hpt
      generalize cntP ps (f : Int) i = c at ca AS c60 PK AG
      have f31 : (f : Int) < 31 := by omega
      have HB' : ∀ w' : World, OwnI w' gA (atN ps i) → OwnI (w'.setCell ⟨gA, f, none⟩ (.int .i64 ((c : Int) + 1))) gA (atN ps (i + 1)) := fun w' h => by have := h.put f ((c : Int) + 1); rwa [AS.out] at this
      have HB := Lib.hid HB'
      clear HB'
      by_cases h1 : (f : Int) < (mn : Int)
      · have y1 : decide ((f : Int) < (mn : Int)) = true := decide_eq_true h1
        obtain ⟨bm, om, rfl, hcm⟩ := HMC.out f (by omega)
        have cm := HK.out.cell hcm
        generalize ms.getD f 0 = M at cm PK
        clear hcm
        by_cases h2 : (c : Int) < M
        · have y2 : decide ((c : Int) < M) = true := decide_eq_true h2
          have SE : Hid (ints (selN ps ms (i + 1)) = ints (selN ps ms i) ++ [(i : Int)]) := by
            unfold Hid
            rw [sel_t (by rw [PK.out]; exact decide_eq_true ⟨h1, h2⟩)]
            simp [ints]
          clear PK h2
          go_wp2
          go_quiet (fail)
          have d1' := HK.out
          go_wp2_with (at_builtin; refine wp_append1 rfl (.tmp 55) (.tmp 57) rfl (gA + 1) _ _ (i : Int) _ rfl (HS.out.kp ((Kpt.refl _).drewN _)) rfl (by rw [ints_len]; omega) (by have := HA.out.lt; simp; omega) ?_; intro v' w' h1 h2; have HS' : Hid (Owns w' (gA + 1) v' (ints (selN ps ms (i + 1)))) := (by unfold Hid; rw [SE.out]; exact h1); have HA' : Hid (OwnI w' gA (atN ps i)) := OwnI.block (OwnI.kpt HA.out ((Kpt.refl _).drewN _)) (h2.block gA (Nat.lt_succ_self _)); have HI' : Hid (OwnI w' g1 (ints ds)) := OwnI.block (OwnI.kpt HI.out ((Kpt.refl _).drewN _)) (h2.block g1 (by have := HG1.out; omega)); have HK' : Hid (Kpt w w') := Below.trans (HK.out.drewN _) (h2.mono (by have := HGA.out; omega)); have ca : w'.cell? ⟨gA, f, none⟩ = some (.int .i64 (c : Int)) := (by have := HA'.out.cell (j := f) (by rw [atN_len]; exact hf); rwa [AG.out] at this); have fa := HA'.out.frozen f; clear h1 h2)
          go_roundw
          case rel => exact ⟨i + 1, by omega, by go_num, HS'.out.away (by simp) _, HB.out _ HA'.out, HI'.out.away (by have := HG1.out; simp; omega) _, Kpt.setCell HK'.out (by have := HGA.out; simp; omega) _⟩
          case measure => simp [intOf]; omega
        · have y2 : decide ((c : Int) < M) = false := decide_eq_false h2
          have SE : Hid (ints (selN ps ms (i + 1)) = ints (selN ps ms i)) := by
            unfold Hid
            rw [sel_f (by rw [PK.out]; exact decide_eq_false fun h => h2 h.2)]
          clear PK h2
          go_wp2
          go_quiet (fail)
          go_wp2
          go_roundw
          case rel => exact ⟨i + 1, by omega, by go_num, by unfold Hid; rw [SE.out]; exact (HS.out.kp ((Kpt.refl _).drewN _)).away (by simp) _, HB.out _ (HA.out.kpt ((Kpt.refl _).drewN _)), (HI.out.kpt ((Kpt.refl _).drewN _)).away (by have := HG1.out; simp; omega) _, Kpt.setCell (HK.out.drewN _) (by have := HGA.out; simp; omega) _⟩
          case measure => simp [intOf]; omega
      · have y1 : decide ((f : Int) < (mn : Int)) = false := decide_eq_false h1
        have SE : Hid (ints (selN ps ms (i + 1)) = ints (selN ps ms i)) := by
          unfold Hid
          rw [sel_f (by rw [PK.out]; exact decide_eq_false fun h => h1 h.1)]
        have y3 : decide (f < mn) = false := decide_eq_false (by omega)
        clear PK h1
        go_wp2
        go_quiet (fail)
        go_wp2
        go_roundw
        case rel => exact ⟨i + 1, by omega, by go_num, by unfold Hid; rw [SE.out]; exact (HS.out.kp ((Kpt.refl _).drewN _)).away (by simp) _, HB.out _ (HA.out.kpt ((Kpt.refl _).drewN _)), (HI.out.kpt ((Kpt.refl _).drewN _)).away (by have := HG1.out; simp; omega) _, Kpt.setCell (HK.out.drewN _) (by have := HGA.out; simp; omega) _⟩
        case measure => simp [intOf]; omega
    · obtain rfl : i = n := by omega
      obtain ⟨sa, scap, rfl, hrs⟩ := HS.out.reads
      have hsl := SL.out i
      rw [← ints_len] at hsl
      have IN : Hid (nobody has ps (selN ps ms i) → ∀ j, j < (ints (selN ps ms i)).length → ∃ x : Nat, (ints (selN ps ms i)).getD j 0 = (x : Int) ∧ x ∈ ds) := fun hN j hj => by
        rw [ints_len] at hj
        rw [cast_at]
        exact ⟨_, rfl, HD.out.2.1 hN _ (by rw [List.getD_eq_getElem?_getD, List.getElem?_eq_getElem hj]; simp)⟩
      have HR2 := Lib.hid hrs
      obtain ⟨aft1, aft2⟩ := AF.out _ _ HK.out hrs
      have AF1 := Lib.hid aft1
      have AF2 := Lib.hid aft2
      have HSL := Lib.hid hrs.sl
      clear hrs HS aft1 aft2 HA AF
      generalize ints (selN ps ms i) = zs at *
      obtain ⟨s, hs⟩ : ∃ s, s = zs.length := ⟨_, rfl⟩
      rw [← hs] at hsl AF1 AF2 IN HSL ⊢
      have HSS := Lib.hid hs
      clear hs HR2
      by_cases hN : nobody has ps (selN ps ms i)
      · have IN := Lib.hid (IN.out hN)
        have AF := Lib.hid (AF1.out hN)
        clear hN AF1 AF2
        go_wp2_with (go_at_call 15; (with_reducible refine AF.out.mono ?_); rintro e w4 ⟨⟨av, rfl⟩, k4⟩; have K4 := Lib.hid (ktr HK.out k4); have HI4 := Lib.hid (HI.out.kpt k4); have HS4 : Hid (∀ k, k < s → ∃ b off, sa = some ⟨b, off, none⟩ ∧ w4.cell? ⟨b, off + k, none⟩ = some (.int .i64 (zs.getD k 0))) := (fun k hk => by obtain ⟨b, o, e1, e2⟩ := HSL.out k hk; exact ⟨b, o, e1, k4.cell e2⟩); clear k4)
        go_loopw [15] (fun jj wr => ∃ j : Nat, j ≤ s ∧ jj = .int .i64 (j : Int) ∧ Hid (OwnI wr g1 (ints ds)) ∧ Hid (Kpt w4 wr) ∧ Hid (Kpt w wr)) (fun jj _ => s - (intOf jj).toNat)
        case atStart => exact ⟨0, Nat.zero_le _, rfl, HI4.out, Kpt.refl _, K4.out⟩
        case round =>
          obtain ⟨j, hj, rfl, HI5, HK4, HK5⟩ := hrel
          by_cases hlt2 : j < s
          · obtain ⟨bs, os, rfl, hcs⟩ := HS4.out j hlt2
            obtain ⟨x, hx, hin⟩ := IN.out j hlt2
            rw [hx] at hcs
            have HCS := Lib.hid hcs
            have HIN := Lib.hid hin
            clear hcs hx hin
            go_wp2
            go_loopw [16, 17] (fun tt kk wr => ∃ k : Nat, k ≤ m1 ∧ tt = .bool (inK ds k x) ∧ kk = .int .i64 (k : Int) ∧ Hid (OwnI wr g1 (ints ds)) ∧ Hid (Kpt w4 wr) ∧ Hid (Kpt w wr)) (fun _ kk _ => m1 - (intOf kk).toNat)
            case atStart => exact ⟨0, Nat.zero_le _, by rw [← inK_0], rfl, HI5.out, HK4.out, HK5.out⟩
            case round =>
              obtain ⟨k, hk, rfl, rfl, HI6, HK6, HK7⟩ := hrel
              by_cases hlt3 : k < m1
              · have c1 := HI6.out.cell (j := k) (by rw [ints_len, ← HM1.out]; exact hlt3)
                rw [cast_at] at c1
                have cx := HK6.out.cell HCS.out
                have IS : Hid (inK ds (k + 1) x = if x = ds.getD k 0 then true else inK ds k x) := inK_s (by rw [← HM1.out]; exact hlt3) x
                generalize ds.getD k 0 = y at c1 IS
                cases hb : inK ds k x with
                | true =>
                  have IS' : Hid (inK ds (k + 1) x = true) := by unfold Hid; rw [IS.out, hb]; split <;> rfl
                  clear hb IS
                  go_wp2
                  go_quiet (fail)
                  go_wp2
                  go_roundw
                  case rel => exact ⟨k + 1, by omega, by rw [IS'.out], by go_num, HI6.out.kpt ((Kpt.refl _).drewN _), HK6.out.drewN _, HK7.out.drewN _⟩
                  case measure => simp [intOf]; omega
                | false =>
                  by_cases hxy : x = y
                  · have IS' : Hid (inK ds (k + 1) x = true) := by unfold Hid; rw [IS.out, if_pos hxy]
                    have z1 : ((y : Int) == (x : Int)) = true := beq_iff_eq.2 (by omega)
                    clear hb IS hxy
                    go_wp2
                    go_quiet (fail)
                    go_wp2
                    go_roundw
                    case rel => exact ⟨k + 1, by omega, by rw [IS'.out], by go_num, HI6.out.kpt ((Kpt.refl _).drewN _), HK6.out.drewN _, HK7.out.drewN _⟩
                    case measure => simp [intOf]; omega
                  · have IS' : Hid (inK ds (k + 1) x = false) := by unfold Hid; rw [IS.out, if_neg hxy, hb]
                    have z1 : ((y : Int) == (x : Int)) = false := beq_eq_false_iff_ne.2 (by omega)
                    clear hb IS hxy
                    go_wp2
                    go_quiet (fail)
                    go_wp2
                    go_roundw
                    case rel => exact ⟨k + 1, by omega, by rw [IS'.out], by go_num, HI6.out.kpt ((Kpt.refl _).drewN _), HK6.out.drewN _, HK7.out.drewN _⟩
                    case measure => simp [intOf]; omega
              · have hk' : k = ds.length := by have := HM1.out; omega
                have e := (inK_all hk' x).trans (decide_eq_true HIN.out)
                rw [e]
                clear e hk'
                go_wp2
                go_roundw
                case rel => exact ⟨j + 1, by omega, by go_num, HI6.out, HK6.out, HK7.out⟩
                case measure => simp [intOf]; omega
          · go_wp2
            go_ret
            exact ⟨rfl, HK5.out⟩
      · have AF := Lib.hid (AF2.out hN)
        clear hN AF1 AF2
        go_wp2_with (go_at_call 15; (with_reducible refine AF.out.mono ?_); rintro e w4 ⟨⟨av, rfl⟩, k4⟩; have K4 := Lib.hid (ktr HK.out k4); clear k4)
        go_ret
        exact ⟨rfl, K4.out⟩

theorem gridMost_walk (v vl vm : Value) (has : List Int) (ps : List (Int × Int × Int)) (ms : List Int) (w : World) (hr : Reads w v has) (hp : ReadsP w vl ps) (hm : Reads w vm ms) :
    Calls Try.prog 5 #[v, vl, vm] w fun e w' => e = .returned (.bool true) ∧ Kpt w w' := by
  by_cases hg : gridE has ps = 0
  · exact most_ok v vl vm has ps ms w hr hp hm hg
  · exact most_bad v vl vm has ps w hr hp hg

end Go.Proofs.Ytbfeojdlaajpdaa
