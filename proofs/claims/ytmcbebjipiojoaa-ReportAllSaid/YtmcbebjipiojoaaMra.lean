/-
  Merged: LawRA.
-/
import Derived.Test.YtmcbebjipiojoaaMb
-- LawRA
namespace Go.Proofs.Ytmcbebjipiojoaa
open Go.RowKit
set_option linter.unusedVariables false

/-- what is open of the first k fails, and how many of them count as late -/
def opA (fs : List (List Int)) (k : Nat) : Int := ((opn fs k).map fun x : Fin fs.length => openL (fs.getD x.1 [])).sum
def opV (q : Int) (fs : List (List Int)) (k : Nat) : Int := ((opn fs k).map fun x : Fin fs.length => ageV q (fs.getD x.1 [])).sum
theorem opA_s {fs : List (List Int)} {k : Nat} (h : k < fs.length) : opA fs (k + 1) = opA fs k + openL (fs.getD k []) := by
  unfold opA
  rw [opn_s h, List.map_append, List.sum_append]
  have := (openL_bd (fs.getD k [])).1
  by_cases e : 0 < openL (fs.getD k [])
  · rw [if_pos e, List.map_cons, List.map_nil, List.sum_cons, List.sum_nil, Int.add_zero]
  · rw [if_neg e, List.map_nil, List.sum_nil]; omega
theorem opV_s {q : Int} {fs : List (List Int)} {k : Nat} (h : k < fs.length) : opV q fs (k + 1) = opV q fs k + if 0 < openL (fs.getD k []) ∧ (fs.getD k []).getD 5 0 < q then 1 else 0 := by
  unfold opV
  rw [opn_s h, List.map_append, List.sum_append]
  unfold ageV
  by_cases h1 : 0 < openL (fs.getD k [])
  · rw [if_pos h1]; simp only [h1, true_and, List.map_cons, List.map_nil, List.sum_cons, List.sum_nil, Int.add_zero]
  · rw [if_neg h1, if_neg (fun e => h1 e.1)]; simp
theorem op_bd {q : Int} {fs : List (List Int)} (k : Nat) (hk : k ≤ fs.length) : (0 ≤ opA fs k ∧ opA fs k ≤ k * 1073741824) ∧ 0 ≤ opV q fs k ∧ opV q fs k ≤ k := by
  induction k with
  | zero => simp [opA, opV, opn]
  | succ k ih =>
    have i := ih (by omega)
    rw [opA_s (by omega), opV_s (by omega)]
    have := openL_bd (fs.getD k [])
    split <;> omega
theorem pty_sum {c : Nat} {fs : List (List Int)} (h : checksE fs = 0) (hc : c = 1 ∨ c = 2) : (ptyO c fs).sum = opA fs fs.length := by
  have hfl := (checksE_0 h).2
  unfold ptyO ptyT opA
  rw [if_pos h]
  refine tal_sum _ _ _ fun x _ => ?_
  have := fail_bd (hfl _ (getF_mem x.2))
  rcases hc with rfl | rfl
  · show ((fs.getD x.1 []).getD 1 0).toNat < 31; omega
  · show ((fs.getD x.1 []).getD 2 0).toNat < 31; omega
theorem age_sum {W q : Int} {hs es : List Int} {fs : List (List Int)} (h : ageQ W hs fs q es = 0) : (ageO W hs q es fs).sum = opV q fs fs.length := by
  unfold ageO ageT opV
  rw [if_pos h]
  refine tal_sum _ _ _ fun x _ => ?_
  unfold ageK
  have := List.countP_le_length (p := fun e => decide (e < couR W hs ((fs.getD x.1 []).getD 5 0) q + 1)) (l := es)
  omega
theorem pty_bd {c : Nat} {fs : List (List Int)} (h : checksE fs = 0) (j : Nat) : 0 ≤ (ptyO c fs).getD j 0 ∧ (ptyO c fs).getD j 0 ≤ 1099511627776 := by
  have h60 := (checksE_0 h).1
  have hl := opn_len fs fs.length
  unfold ptyO ptyT
  rw [if_pos h]
  have := tal_bd (m := 31) (c := 1073741824) (fun x : Fin fs.length => ((fs.getD x.1 []).getD c 0).toNat) (fun x => openL (fs.getD x.1 [])) (by decide) (fun x => openL_bd _) (opn fs fs.length) j
  omega
theorem pty_len {c : Nat} {fs : List (List Int)} (h : checksE fs = 0) : (ptyO c fs).length = 31 := by
  unfold ptyO; rw [if_pos h]; exact tal_len _ _ _ _
theorem age_bd {W q : Int} {hs es : List Int} {fs : List (List Int)} (h : ageQ W hs fs q es = 0) (j : Nat) : 0 ≤ (ageO W hs q es fs).getD j 0 ∧ (ageO W hs q es fs).getD j 0 ≤ 1099511627776 := by
  have h60 := (checksE_0 (ageQ_0 h).2.1).1
  have hl := opn_len fs fs.length
  unfold ageO
  rw [if_pos h]
  have := tal_bd (m := es.length + 1) (c := 1) (fun x : Fin fs.length => ageK W hs q es (fs.getD x.1 [])) (fun x => ageV q (fs.getD x.1 [])) (by decide) (fun x => by unfold ageV; split <;> omega) (opn fs fs.length) j
  unfold ageT
  omega
theorem age_len {W q : Int} {hs es : List Int} {fs : List (List Int)} (h : ageQ W hs fs q es = 0) : (ageO W hs q es fs).length = es.length + 1 := by
  unfold ageO; rw [if_pos h]; exact tal_len _ _ _ _

set_option maxRecDepth 100000 in
set_option maxHeartbeats 4000000 in
theorem rall_bad (W q : Int) (v lv ev : Value) (hs es : List Int) (fs : List (List Int)) (w : World) (hr : Reads w v hs) (hf : Fits hs) (hF : ReadsF w lv fs) (hE : Reads w ev es) (h : checksE fs ≠ 0) :
    Calls Try.prog 4 #[calV W v, lv, .int .i64 q, ev] w fun e w' => e = .returned (.bool true) ∧ Kpt w w' := by
  have AG := Lib.hid (fun w' (k : Kpt w w') => ages_any W q v lv ev hs es fs w' (hr.kpt k) hf (hF.kpt k) (hE.kpt k))
  have PA := Lib.hid (fun w' (k : Kpt w w') => parties_any lv fs w' (hF.kpt k))
  have e1 : ptyO 1 fs = [] := if_neg h
  have e2 : ptyO 2 fs = [] := if_neg h
  have hq : ageQ W hs fs q es ≠ 0 := fun e => h (ageQ_0 e).2.1
  have p1 : (checksE fs != 0) = true := bne_iff_ne.2 h
  have p2 : (ageQ W hs fs q es != 0) = true := bne_iff_ne.2 hq
  rw [e1, e2] at PA
  have K1 : Hid (Kpt w (w.alloc (.cells #[.int .i64 W, v] 24))) := (Kpt.refl w).alloc _
  obtain ⟨a, cap, rfl, -⟩ := hr
  unfold calV at *
  clear h hq e1 e2 hF hE
  generalize checksE fs = E1 at *
  generalize ageQ W hs fs q es = E2 at *
  generalize (ageO W hs q es fs) = al at *
  go_enter Try.func4, Try.ntmps4
  go_wp2_with (first
    | (go_at_call 8; (with_reducible refine (AG.out _ K1.out).mono ?_); rintro z w1 ⟨aa, ac, rfl, rd, kk⟩; have K1 := Lib.hid (ktr K1.out kk); clear rd kk)
    | (go_at_call 9; (with_reducible refine (PA.out _ K1.out).mono ?_); rintro z w2 ⟨xa, xc, ya, yc, rfl, rx, ry, kk⟩; have K1 := Lib.hid (ktr K1.out kk); clear rx ry kk)
    | (go_at_call 19; (with_reducible refine (reportBegun _).mono ?_); rintro z w3 ⟨rfl, kk⟩; have K1 := Lib.hid (ktr K1.out kk); clear kk)
    | (go_at_call 21; (with_reducible refine (failBegun _).mono ?_); rintro z w4 ⟨rfl, kk⟩; have K1 := Lib.hid (ktr K1.out kk); clear kk))
  go_ret
  exact ⟨rfl, K1.out⟩

set_option maxRecDepth 100000 in
set_option maxHeartbeats 4000000 in
theorem rall_ok (W q E2 : Int) (v lv ev : Value) (hs es al : List Int) (fs : List (List Int)) (w : World) (hr : Reads w v hs) (hF : ReadsF w lv fs) (hE : Reads w ev es) (h : checksE fs = 0)
    (AG : ∀ w', Kpt w w' → Calls Try.prog 8 #[.agg #[.int .i64 W, v], lv, .int .i64 q, ev] w' fun e w'' => ∃ a cap, e = .returned (.tuple #[.slice a al.length cap, .int .i64 E2]) ∧ Reads w'' (.slice a al.length cap) al ∧ Kpt w' w'')
    (hz : E2 = 0 → al.sum = opV q fs fs.length ∧ al.length = es.length + 1 ∧ es.length ≤ 40 ∧ ∀ j, 0 ≤ al.getD j 0 ∧ al.getD j 0 ≤ 1099511627776) :
    Calls Try.prog 4 #[calV W v, lv, .int .i64 q, ev] w fun e w' => e = .returned (.bool true) ∧ Kpt w w' := by
  have AG := Lib.hid AG
  have PA := Lib.hid (fun w' (k : Kpt w w') => parties_any lv fs w' (hF.kpt k))
  obtain ⟨h60, hfl⟩ := checksE_0 h
  rw [h] at PA
  have TX := Lib.hid (fun u w' (hu : Reads w' u (ptyO 1 fs)) => tog_run u _ w' hu (pty_bd h) (by rw [pty_len h]; decide))
  have TY := Lib.hid (fun u w' (hu : Reads w' u (ptyO 2 fs)) => tog_run u _ w' hu (pty_bd h) (by rw [pty_len h]; decide))
  rw [pty_sum h (.inl rfl)] at TX
  rw [pty_sum h (.inr rfl)] at TY
  rw [pty_len h, pty_len h] at PA
  have K1 : Hid (Kpt w (w.alloc (.cells #[.int .i64 W, v] 24))) := (Kpt.refl w).alloc _
  have HA := Lib.hid (fun k (h : k < fs.length) => opA_s h)
  have HV := Lib.hid (fun k (h : k < fs.length) => opV_s (q := q) h)
  have HB := Lib.hid (fun k (h : k ≤ fs.length) => op_bd (q := q) k h)
  have A0 : Hid (opA fs 0 = 0) := rfl
  have V0 : Hid (opV q fs 0 = 0) := rfl
  have HFL := Lib.hid hfl
  obtain ⟨a, cap, rfl, -⟩ := hr
  obtain ⟨a2, cap2, rfl, hm, -, hcl⟩ := hF
  obtain ⟨a3, cap3, rfl, -⟩ := hE
  have HC := Lib.hid hcl
  have HZ := Lib.hid hz
  unfold maxLen at hm
  unfold calV at *
  clear h hfl hcl hz
  go_enter Try.func4, Try.ntmps4
  go_wp2_with (first
    | (go_at_call 8; (with_reducible refine (AG.out _ K1.out).mono ?_); rintro z w1 ⟨aa, ac, rfl, rd, kk⟩; have K1 := Lib.hid (ktr K1.out kk); have RA := Lib.hid rd; clear rd kk)
    | (go_at_call 9; (with_reducible refine (PA.out _ K1.out).mono ?_); rintro z w2 ⟨xa, xc, ya, yc, rfl, rx, ry, kk⟩; have K1 := Lib.hid (ktr K1.out kk); have RA := Lib.hid (RA.out.kpt kk); have RX := Lib.hid rx; have RY := Lib.hid ry; clear rx ry kk)
    | (go_at_call 19; (with_reducible refine (reportBegun _).mono ?_); rintro z w3 ⟨rfl, kk⟩; have K1 := Lib.hid (ktr K1.out kk); have RA := Lib.hid (RA.out.kpt kk); have RX := Lib.hid (RX.out.kpt kk); have RY := Lib.hid (RY.out.kpt kk); clear kk)
    | (go_at_call 21; (with_reducible refine (failBegun _).mono ?_); rintro z w4 ⟨rfl, kk⟩; have K1 := Lib.hid (ktr K1.out kk); have RA := Lib.hid (RA.out.kpt kk); have RX := Lib.hid (RX.out.kpt kk); have RY := Lib.hid (RY.out.kpt kk); clear kk))
  have KK := K1
  clear AG PA K1
  go_loopw [14, 15, 16] (fun s t i wr => ∃ k : Nat, k ≤ fs.length ∧ s = .int .i64 (opA fs k) ∧ t = .int .i64 (opV q fs k) ∧ i = .int .i64 (k : Int) ∧ Hid (Kpt w4 wr)) (fun s t i _ => fs.length - (intOf i).toNat)
  case atStart => exact ⟨0, Nat.zero_le _, by rw [A0.out], by rw [V0.out], rfl, Kpt.refl _⟩
  case round =>
    obtain ⟨k, hk, rfl, rfl, rfl, HK⟩ := hrel
    by_cases hlt : k < fs.length
    · obtain ⟨g, off, rfl, hfl⟩ := HC.out k hlt
      have hf := hfl.kpt (ktr KK.out HK.out)
      have fb := (HFL.out _ (getF_mem hlt))
      have ha := HA.out k hlt
      have hv := HV.out k hlt
      have hb := HB.out k (by omega)
      have ho := openL_bd (fs.getD k [])
      unfold failEL at fb
      unfold openL at ha hv ho
      have c0 : wr.cell? ⟨g, off + k * 10, none⟩ = _ := hf 0 (by omega)
      have c1 : wr.cell? ⟨g, off + k * 10 + 1, none⟩ = _ := hf 1 (by omega)
      have c2 : wr.cell? ⟨g, off + k * 10 + 2, none⟩ = _ := hf 2 (by omega)
      have c3 : wr.cell? ⟨g, off + k * 10 + 3, none⟩ = _ := hf 3 (by omega)
      have c4 : wr.cell? ⟨g, off + k * 10 + 4, none⟩ = _ := hf 4 (by omega)
      have c5 : wr.cell? ⟨g, off + k * 10 + 5, none⟩ = _ := hf 5 (by omega)
      have c6 : wr.cell? ⟨g, off + k * 10 + 6, none⟩ = _ := hf 6 (by omega)
      have c7 : wr.cell? ⟨g, off + k * 10 + 7, none⟩ = _ := hf 7 (by omega)
      have c8 : wr.cell? ⟨g, off + k * 10 + 8, none⟩ = _ := hf 8 (by omega)
      have c9 : wr.cell? ⟨g, off + k * 10 + 9, none⟩ = _ := hf 9 (by omega)
      clear hf hfl
      generalize (fs.getD k []).getD 0 0 = i at *
      generalize (fs.getD k []).getD 1 0 = f at *
      generalize (fs.getD k []).getD 2 0 = t at *
      generalize (fs.getD k []).getD 3 0 = c at *
      generalize (fs.getD k []).getD 4 0 = p at *
      generalize (fs.getD k []).getD 5 0 = d at *
      generalize (fs.getD k []).getD 6 0 = u at *
      generalize (fs.getD k []).getD 7 0 = x at *
      generalize (fs.getD k []).getD 8 0 = b at *
      generalize (fs.getD k []).getD 9 0 = y at *
      have OX := Lib.hid (fun w => fopenX_run i f t c p d u x b y w)
      rw [fb] at OX
      generalize openV i f t c p d u x b y = U at *
      generalize opA fs k = A at *
      generalize opV q fs k = V at *
      have SA := Lib.hid ha
      have y1 : decide ((k : Int) < (fs.length : Int)) = true := decide_eq_true (by omega)
      have i0 : (0 : Int) ≤ (k : Int) := by omega
      have i1 : (k : Int) < (fs.length : Int) := by omega
      have m1 : IntKind.i64.wrap (A + U) = A + U := IntWalk.i64_in _ (by omega)
      have m2 : IntKind.i64.wrap (V + 1) = V + 1 := IntWalk.i64_in _ (by omega)
      clear ha fb
      by_cases h1 : 0 < U
      · have q1 : decide ((0 : Int) < U) = true := decide_eq_true h1
        by_cases h2 : d < q
        · have q2 : decide (d < q) = true := decide_eq_true h2
          rw [if_pos ⟨h1, h2⟩] at hv
          have SV := Lib.hid hv
          clear hv hb ho h1 h2
          go_wp2_with (go_at_call 22; (with_reducible refine (OX.out _).mono ?_); rintro z w5 ⟨rfl, kk⟩; have K5 := Lib.hid (ktr HK.out kk); have c5 : World.cell? w5 ⟨g, off + k * 10 + 5, none⟩ = some (.int .i64 d) := kk.cell c5; clear kk)
          go_roundw
          case rel => exact ⟨k + 1, by omega, by rw [SA.out], by rw [SV.out], by go_num, K5.out⟩
          case measure => simp [intOf]; omega
        · have q2 : decide (d < q) = false := decide_eq_false h2
          rw [if_neg (fun e => h2 e.2), Int.add_zero] at hv
          have SV := Lib.hid hv
          clear hv hb ho h1 h2
          go_wp2_with (go_at_call 22; (with_reducible refine (OX.out _).mono ?_); rintro z w5 ⟨rfl, kk⟩; have K5 := Lib.hid (ktr HK.out kk); have c5 : World.cell? w5 ⟨g, off + k * 10 + 5, none⟩ = some (.int .i64 d) := kk.cell c5; clear kk)
          go_roundw
          case rel => exact ⟨k + 1, by omega, by rw [SA.out], by rw [SV.out], by go_num, K5.out⟩
          case measure => simp [intOf]; omega
      · have q1 : decide ((0 : Int) < U) = false := decide_eq_false h1
        rw [if_neg (fun e => h1 e.1), Int.add_zero] at hv
        have SV := Lib.hid hv
        clear hv hb ho h1
        go_wp2_with (go_at_call 22; (with_reducible refine (OX.out _).mono ?_); rintro z w5 ⟨rfl, kk⟩; have K5 := Lib.hid (ktr HK.out kk); have c5 : World.cell? w5 ⟨g, off + k * 10 + 5, none⟩ = some (.int .i64 d) := kk.cell c5; clear kk)
        go_roundw
        case rel => exact ⟨k + 1, by omega, by rw [SA.out], by rw [SV.out], by go_num, K5.out⟩
        case measure => simp [intOf]; omega
    · have hkl : k = fs.length := by omega
      have y1 : decide ((k : Int) < (fs.length : Int)) = false := decide_eq_false (by omega)
      have TX' := Lib.hid (TX.out _ wr (RX.out.kpt HK.out))
      have TY' := Lib.hid (TY.out _ wr (RY.out.kpt HK.out))
      have RA' := Lib.hid (RA.out.kpt HK.out)
      have KE := Lib.hid (ktr KK.out HK.out)
      have eA : opA fs k = opA fs fs.length := by rw [hkl]
      have eV : opV q fs k = opV q fs fs.length := by rw [hkl]
      rw [eA, eV]
      by_cases hz : E2 = 0
      · obtain ⟨z1, z2, z3, z4⟩ := HZ.out hz
        have TA := Lib.hid (tog_run _ al wr RA'.out z4 (by omega))
        rw [z1] at TA
        have q1 : (E2 != 0) = false := by rw [hz]; rfl
        have q2 : ((al.length : Int) == (es.length : Int) + 1) = true := by rw [beq_iff_eq]; omega
        have m1 : IntKind.i64.wrap ((es.length : Int) + 1) = (es.length : Int) + 1 := IntWalk.i64_in _ (by omega)
        clear z1 z2 z3 z4 hz eA eV TX TY RX RY RA HK
        generalize opA fs fs.length = A at *
        generalize opV q fs fs.length = V at *
        go_wp2_with (first
          | (go_at_call 23; (with_reducible refine TX'.out.mono ?_); rintro z w6 ⟨rfl, rfl⟩)
          | (go_at_call 23; (with_reducible refine TY'.out.mono ?_); rintro z w6 ⟨rfl, rfl⟩)
          | (go_at_call 23; (with_reducible refine TA.out.mono ?_); rintro z w6 ⟨rfl, rfl⟩))
        go_ret
        exact ⟨rfl, KE.out⟩
      · have q1 : (E2 != 0) = true := bne_iff_ne.2 hz
        clear hz eA eV TX TY RX RY RA HK
        generalize opA fs fs.length = A at *
        generalize opV q fs fs.length = V at *
        go_wp2_with (first
          | (go_at_call 23; (with_reducible refine TX'.out.mono ?_); rintro z w6 ⟨rfl, rfl⟩)
          | (go_at_call 23; (with_reducible refine TY'.out.mono ?_); rintro z w6 ⟨rfl, rfl⟩))
        go_ret
        exact ⟨rfl, KE.out⟩

theorem rall_plain (W : Int) (lv : Value) (q : Int) (ev v : Value) (hs : List Int) (fs : List (List Int)) (es : List Int) (w : World) (hr : Reads w v hs) (hf : Fits hs) (hF : ReadsF w lv fs) (hE : Reads w ev es) :
    Calls Try.prog 4 #[calV W v, lv, .int .i64 q, ev] w fun e w' => e = .returned (.bool true) ∧ Kpt w w' := by
  by_cases h : checksE fs = 0
  · exact rall_ok W q (ageQ W hs fs q es) v lv ev hs es (ageO W hs q es fs) fs w hr hF hE h (fun w' k => ages_any W q v lv ev hs es fs w' (hr.kpt k) hf (hF.kpt k) (hE.kpt k)) (fun hz => ⟨age_sum hz, age_len hz, (edgE_0 (ageQ_0 hz).2.2.2).1, age_bd hz⟩)
  · exact rall_bad W q v lv ev hs es fs w hr hf hF hE h

end Go.Proofs.Ytmcbebjipiojoaa
