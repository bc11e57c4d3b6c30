/-
  Merged: LawRA, LawRF.
-/
import Derived.Test.YtmcbebjipiojoaaMb
import Derived.Test.YtmcbebjipiojoaaSl
import Derived.Deep.RegionHeld3
import Derived.Deep.AppendLies
import Derived.Deep.Cut
-- LawRA
namespace Go.Proofs.Ytmcbebjipiojoaa
open Go.RowKit
set_option linter.unusedVariables false

/-- what is open of the first k fails, and how many of them count as late -/
def opA (fs : List (List Int)) (k : Nat) : Int := ((opn fs k).map fun x : Fin fs.length => openL (fs.getD x.1 [])).sum
def opV (q : Int) (fs : List (List Int)) (k : Nat) : Int := ((opn fs k).map fun x : Fin fs.length => ageV q (fs.getD x.1 [])).sum
theorem opA_s {fs : List (List Int)} {k : Nat} (h : k < fs.length) : opA fs (k + 1) = opA fs k + openL (fs.getD k []) := by
  unfold opA
  rw [opn_s h, List.map_append, List.sum_append]
  have := (openL_bd (fs.getD k [])).1
  by_cases e : 0 < openL (fs.getD k [])
  · rw [if_pos e, List.map_cons, List.map_nil, List.sum_cons, List.sum_nil, Int.add_zero]
  · rw [if_neg e, List.map_nil, List.sum_nil]; omega
theorem opV_s {q : Int} {fs : List (List Int)} {k : Nat} (h : k < fs.length) : opV q fs (k + 1) = opV q fs k + if 0 < openL (fs.getD k []) ∧ (fs.getD k []).getD 5 0 < q then 1 else 0 := by
  unfold opV
  rw [opn_s h, List.map_append, List.sum_append]
  unfold ageV
  by_cases h1 : 0 < openL (fs.getD k [])
  · rw [if_pos h1]; simp only [h1, true_and, List.map_cons, List.map_nil, List.sum_cons, List.sum_nil, Int.add_zero]
  · rw [if_neg h1, if_neg (fun e => h1 e.1)]; simp
theorem op_bd {q : Int} {fs : List (List Int)} (k : Nat) (hk : k ≤ fs.length) : (0 ≤ opA fs k ∧ opA fs k ≤ k * 1073741824) ∧ 0 ≤ opV q fs k ∧ opV q fs k ≤ k := by
  induction k with
  | zero => simp [opA, opV, opn]
  | succ k ih =>
    have i := ih (by omega)
    rw [opA_s (by omega), opV_s (by omega)]
    have := openL_bd (fs.getD k [])
    split <;> omega
theorem pty_sum {c : Nat} {fs : List (List Int)} (h : checksE fs = 0) (hc : c = 1 ∨ c = 2) : (ptyO c fs).sum = opA fs fs.length := by
  have hfl := (checksE_0 h).2
  unfold ptyO ptyT opA
  rw [if_pos h]
  refine tal_sum _ _ _ fun x _ => ?_
  have := fail_bd (hfl _ (getF_mem x.2))
  rcases hc with rfl | rfl
  · show ((fs.getD x.1 []).getD 1 0).toNat < 31; omega
  · show ((fs.getD x.1 []).getD 2 0).toNat < 31; omega
theorem age_sum {W q : Int} {hs es : List Int} {fs : List (List Int)} (h : ageQ W hs fs q es = 0) : (ageO W hs q es fs).sum = opV q fs fs.length := by
  unfold ageO ageT opV
  rw [if_pos h]
  refine tal_sum _ _ _ fun x _ => ?_
  unfold ageK
  have := List.countP_le_length (p := fun e => decide (e < couR W hs ((fs.getD x.1 []).getD 5 0) q + 1)) (l := es)
  omega
theorem pty_bd {c : Nat} {fs : List (List Int)} (h : checksE fs = 0) (j : Nat) : 0 ≤ (ptyO c fs).getD j 0 ∧ (ptyO c fs).getD j 0 ≤ 1099511627776 := by
  have h60 := (checksE_0 h).1
  have hl := opn_len fs fs.length
  unfold ptyO ptyT
  rw [if_pos h]
  have := tal_bd (m := 31) (c := 1073741824) (fun x : Fin fs.length => ((fs.getD x.1 []).getD c 0).toNat) (fun x => openL (fs.getD x.1 [])) (by decide) (fun x => openL_bd _) (opn fs fs.length) j
  omega
theorem pty_len {c : Nat} {fs : List (List Int)} (h : checksE fs = 0) : (ptyO c fs).length = 31 := by
  unfold ptyO; rw [if_pos h]; exact tal_len _ _ _ _
theorem age_bd {W q : Int} {hs es : List Int} {fs : List (List Int)} (h : ageQ W hs fs q es = 0) (j : Nat) : 0 ≤ (ageO W hs q es fs).getD j 0 ∧ (ageO W hs q es fs).getD j 0 ≤ 1099511627776 := by
  have h60 := (checksE_0 (ageQ_0 h).2.1).1
  have hl := opn_len fs fs.length
  unfold ageO
  rw [if_pos h]
  have := tal_bd (m := es.length + 1) (c := 1) (fun x : Fin fs.length => ageK W hs q es (fs.getD x.1 [])) (fun x => ageV q (fs.getD x.1 [])) (by decide) (fun x => by unfold ageV; split <;> omega) (opn fs fs.length) j
  unfold ageT
  omega
theorem age_len {W q : Int} {hs es : List Int} {fs : List (List Int)} (h : ageQ W hs fs q es = 0) : (ageO W hs q es fs).length = es.length + 1 := by
  unfold ageO; rw [if_pos h]; exact tal_len _ _ _ _

set_option maxRecDepth 100000 in
set_option maxHeartbeats 4000000 in
theorem rall_bad (W q : Int) (v lv ev : Value) (hs es : List Int) (fs : List (List Int)) (w : World) (hr : Reads w v hs) (hf : Fits hs) (hF : ReadsF w lv fs) (hE : Reads w ev es) (h : checksE fs ≠ 0) :
    Calls Try.prog 4 #[calV W v, lv, .int .i64 q, ev] w fun e w' => e = .returned (.bool true) ∧ Kpt w w' := by
  have AG := Lib.hid (fun w' (k : Kpt w w') => ages_any W q v lv ev hs es fs w' (hr.kpt k) hf (hF.kpt k) (hE.kpt k))
  have PA := Lib.hid (fun w' (k : Kpt w w') => parties_any lv fs w' (hF.kpt k))
  have e1 : ptyO 1 fs = [] := if_neg h
  have e2 : ptyO 2 fs = [] := if_neg h
  have hq : ageQ W hs fs q es ≠ 0 := fun e => h (ageQ_0 e).2.1
  have p1 : (checksE fs != 0) = true := bne_iff_ne.2 h
  have p2 : (ageQ W hs fs q es != 0) = true := bne_iff_ne.2 hq
  rw [e1, e2] at PA
  have K1 : Hid (Kpt w (w.alloc (.cells #[.int .i64 W, v] 24))) := (Kpt.refl w).alloc _
  obtain ⟨a, cap, rfl, -⟩ := hr
  unfold calV at *
  clear h hq e1 e2 hF hE
  generalize checksE fs = E1 at *
  generalize ageQ W hs fs q es = E2 at *
  generalize (ageO W hs q es fs) = al at *
  go_enter Try.func4, Try.ntmps4
  go_wp2_with (first
    | (go_at_call 8; (with_reducible refine (AG.out _ K1.out).mono ?_); rintro z w1 ⟨aa, ac, rfl, rd, kk⟩; have K1 := Lib.hid (ktr K1.out kk); clear rd kk)
    | (go_at_call 9; (with_reducible refine (PA.out _ K1.out).mono ?_); rintro z w2 ⟨xa, xc, ya, yc, rfl, rx, ry, kk⟩; have K1 := Lib.hid (ktr K1.out kk); clear rx ry kk)
    | (go_at_call 19; (with_reducible refine (reportBegun _).mono ?_); rintro z w3 ⟨rfl, kk⟩; have K1 := Lib.hid (ktr K1.out kk); clear kk)
    | (go_at_call 21; (with_reducible refine (failBegun _).mono ?_); rintro z w4 ⟨rfl, kk⟩; have K1 := Lib.hid (ktr K1.out kk); clear kk))
  go_ret
  exact ⟨rfl, K1.out⟩

set_option maxRecDepth 100000 in
set_option maxHeartbeats 4000000 in
theorem rall_ok (W q E2 : Int) (v lv ev : Value) (hs es al : List Int) (fs : List (List Int)) (w : World) (hr : Reads w v hs) (hF : ReadsF w lv fs) (hE : Reads w ev es) (h : checksE fs = 0)
    (AG : ∀ w', Kpt w w' → Calls Try.prog 8 #[.agg #[.int .i64 W, v], lv, .int .i64 q, ev] w' fun e w'' => ∃ a cap, e = .returned (.tuple #[.slice a al.length cap, .int .i64 E2]) ∧ Reads w'' (.slice a al.length cap) al ∧ Kpt w' w'')
    (hz : E2 = 0 → al.sum = opV q fs fs.length ∧ al.length = es.length + 1 ∧ es.length ≤ 40 ∧ ∀ j, 0 ≤ al.getD j 0 ∧ al.getD j 0 ≤ 1099511627776) :
    Calls Try.prog 4 #[calV W v, lv, .int .i64 q, ev] w fun e w' => e = .returned (.bool true) ∧ Kpt w w' := by
  have AG := Lib.hid AG
  have PA := Lib.hid (fun w' (k : Kpt w w') => parties_any lv fs w' (hF.kpt k))
  obtain ⟨h60, hfl⟩ := checksE_0 h
  rw [h] at PA
  have TX := Lib.hid (fun u w' (hu : Reads w' u (ptyO 1 fs)) => tog_run u _ w' hu (pty_bd h) (by rw [pty_len h]; decide))
  have TY := Lib.hid (fun u w' (hu : Reads w' u (ptyO 2 fs)) => tog_run u _ w' hu (pty_bd h) (by rw [pty_len h]; decide))
  rw [pty_sum h (.inl rfl)] at TX
  rw [pty_sum h (.inr rfl)] at TY
  rw [pty_len h, pty_len h] at PA
  have K1 : Hid (Kpt w (w.alloc (.cells #[.int .i64 W, v] 24))) := (Kpt.refl w).alloc _
  have HA := Lib.hid (fun k (h : k < fs.length) => opA_s h)
  have HV := Lib.hid (fun k (h : k < fs.length) => opV_s (q := q) h)
  have HB := Lib.hid (fun k (h : k ≤ fs.length) => op_bd (q := q) k h)
  have A0 : Hid (opA fs 0 = 0) := rfl
  have V0 : Hid (opV q fs 0 = 0) := rfl
  have HFL := Lib.hid hfl
  obtain ⟨a, cap, rfl, -⟩ := hr
  obtain ⟨a2, cap2, rfl, hm, -, hcl⟩ := hF
  obtain ⟨a3, cap3, rfl, -⟩ := hE
  have HC := Lib.hid hcl
  have HZ := Lib.hid hz
  unfold maxLen at hm
  unfold calV at *
  clear h hfl hcl hz
  go_enter Try.func4, Try.ntmps4
  go_wp2_with (first
    | (go_at_call 8; (with_reducible refine (AG.out _ K1.out).mono ?_); rintro z w1 ⟨aa, ac, rfl, rd, kk⟩; have K1 := Lib.hid (ktr K1.out kk); have RA := Lib.hid rd; clear rd kk)
    | (go_at_call 9; (with_reducible refine (PA.out _ K1.out).mono ?_); rintro z w2 ⟨xa, xc, ya, yc, rfl, rx, ry, kk⟩; have K1 := Lib.hid (ktr K1.out kk); have RA := Lib.hid (RA.out.kpt kk); have RX := Lib.hid rx; have RY := Lib.hid ry; clear rx ry kk)
    | (go_at_call 19; (with_reducible refine (reportBegun _).mono ?_); rintro z w3 ⟨rfl, kk⟩; have K1 := Lib.hid (ktr K1.out kk); have RA := Lib.hid (RA.out.kpt kk); have RX := Lib.hid (RX.out.kpt kk); have RY := Lib.hid (RY.out.kpt kk); clear kk)
    | (go_at_call 21; (with_reducible refine (failBegun _).mono ?_); rintro z w4 ⟨rfl, kk⟩; have K1 := Lib.hid (ktr K1.out kk); have RA := Lib.hid (RA.out.kpt kk); have RX := Lib.hid (RX.out.kpt kk); have RY := Lib.hid (RY.out.kpt kk); clear kk))
  have KK := K1
  clear AG PA K1
  go_loopw [14, 15, 16] (fun s t i wr => ∃ k : Nat, k ≤ fs.length ∧ s = .int .i64 (opA fs k) ∧ t = .int .i64 (opV q fs k) ∧ i = .int .i64 (k : Int) ∧ Hid (Kpt w4 wr)) (fun s t i _ => fs.length - (intOf i).toNat)
  case atStart => exact ⟨0, Nat.zero_le _, by rw [A0.out], by rw [V0.out], rfl, Kpt.refl _⟩
  case round =>
    obtain ⟨k, hk, rfl, rfl, rfl, HK⟩ := hrel
    by_cases hlt : k < fs.length
    · obtain ⟨g, off, rfl, hfl⟩ := HC.out k hlt
      have hf := hfl.kpt (ktr KK.out HK.out)
      have fb := (HFL.out _ (getF_mem hlt))
      have ha := HA.out k hlt
      have hv := HV.out k hlt
      have hb := HB.out k (by omega)
      have ho := openL_bd (fs.getD k [])
      unfold failEL at fb
      unfold openL at ha hv ho
      have c0 : wr.cell? ⟨g, off + k * 10, none⟩ = _ := hf 0 (by omega)
      have c1 : wr.cell? ⟨g, off + k * 10 + 1, none⟩ = _ := hf 1 (by omega)
      have c2 : wr.cell? ⟨g, off + k * 10 + 2, none⟩ = _ := hf 2 (by omega)
      have c3 : wr.cell? ⟨g, off + k * 10 + 3, none⟩ = _ := hf 3 (by omega)
      have c4 : wr.cell? ⟨g, off + k * 10 + 4, none⟩ = _ := hf 4 (by omega)
      have c5 : wr.cell? ⟨g, off + k * 10 + 5, none⟩ = _ := hf 5 (by omega)
      have c6 : wr.cell? ⟨g, off + k * 10 + 6, none⟩ = _ := hf 6 (by omega)
      have c7 : wr.cell? ⟨g, off + k * 10 + 7, none⟩ = _ := hf 7 (by omega)
      have c8 : wr.cell? ⟨g, off + k * 10 + 8, none⟩ = _ := hf 8 (by omega)
      have c9 : wr.cell? ⟨g, off + k * 10 + 9, none⟩ = _ := hf 9 (by omega)
      clear hf hfl
      generalize (fs.getD k []).getD 0 0 = i at *
      generalize (fs.getD k []).getD 1 0 = f at *
      generalize (fs.getD k []).getD 2 0 = t at *
      generalize (fs.getD k []).getD 3 0 = c at *
      generalize (fs.getD k []).getD 4 0 = p at *
      generalize (fs.getD k []).getD 5 0 = d at *
      generalize (fs.getD k []).getD 6 0 = u at *
      generalize (fs.getD k []).getD 7 0 = x at *
      generalize (fs.getD k []).getD 8 0 = b at *
      generalize (fs.getD k []).getD 9 0 = y at *
      have OX := Lib.hid (fun w => fopenX_run i f t c p d u x b y w)
      rw [fb] at OX
      generalize openV i f t c p d u x b y = U at *
      generalize opA fs k = A at *
      generalize opV q fs k = V at *
      have SA := Lib.hid ha
      have y1 : decide ((k : Int) < (fs.length : Int)) = true := decide_eq_true (by omega)
      have i0 : (0 : Int) ≤ (k : Int) := by omega
      have i1 : (k : Int) < (fs.length : Int) := by omega
      have m1 : IntKind.i64.wrap (A + U) = A + U := IntWalk.i64_in _ (by omega)
      have m2 : IntKind.i64.wrap (V + 1) = V + 1 := IntWalk.i64_in _ (by omega)
      clear ha fb
      by_cases h1 : 0 < U
      · have q1 : decide ((0 : Int) < U) = true := decide_eq_true h1
        by_cases h2 : d < q
        · have q2 : decide (d < q) = true := decide_eq_true h2
          rw [if_pos ⟨h1, h2⟩] at hv
          have SV := Lib.hid hv
          clear hv hb ho h1 h2
          go_wp2_with (go_at_call 22; (with_reducible refine (OX.out _).mono ?_); rintro z w5 ⟨rfl, kk⟩; have K5 := Lib.hid (ktr HK.out kk); have c5 : World.cell? w5 ⟨g, off + k * 10 + 5, none⟩ = some (.int .i64 d) := kk.cell c5; clear kk)
          go_roundw
          case rel => exact ⟨k + 1, by omega, by rw [SA.out], by rw [SV.out], by go_num, K5.out⟩
          case measure => simp [intOf]; omega
        · have q2 : decide (d < q) = false := decide_eq_false h2
          rw [if_neg (fun e => h2 e.2), Int.add_zero] at hv
          have SV := Lib.hid hv
          clear hv hb ho h1 h2
          go_wp2_with (go_at_call 22; (with_reducible refine (OX.out _).mono ?_); rintro z w5 ⟨rfl, kk⟩; have K5 := Lib.hid (ktr HK.out kk); have c5 : World.cell? w5 ⟨g, off + k * 10 + 5, none⟩ = some (.int .i64 d) := kk.cell c5; clear kk)
          go_roundw
          case rel => exact ⟨k + 1, by omega, by rw [SA.out], by rw [SV.out], by go_num, K5.out⟩
          case measure => simp [intOf]; omega
      · have q1 : decide ((0 : Int) < U) = false := decide_eq_false h1
        rw [if_neg (fun e => h1 e.1), Int.add_zero] at hv
        have SV := Lib.hid hv
        clear hv hb ho h1
        go_wp2_with (go_at_call 22; (with_reducible refine (OX.out _).mono ?_); rintro z w5 ⟨rfl, kk⟩; have K5 := Lib.hid (ktr HK.out kk); have c5 : World.cell? w5 ⟨g, off + k * 10 + 5, none⟩ = some (.int .i64 d) := kk.cell c5; clear kk)
        go_roundw
        case rel => exact ⟨k + 1, by omega, by rw [SA.out], by rw [SV.out], by go_num, K5.out⟩
        case measure => simp [intOf]; omega
    · have hkl : k = fs.length := by omega
      have y1 : decide ((k : Int) < (fs.length : Int)) = false := decide_eq_false (by omega)
      have TX' := Lib.hid (TX.out _ wr (RX.out.kpt HK.out))
      have TY' := Lib.hid (TY.out _ wr (RY.out.kpt HK.out))
      have RA' := Lib.hid (RA.out.kpt HK.out)
      have KE := Lib.hid (ktr KK.out HK.out)
      have eA : opA fs k = opA fs fs.length := by rw [hkl]
      have eV : opV q fs k = opV q fs fs.length := by rw [hkl]
      rw [eA, eV]
      by_cases hz : E2 = 0
      · obtain ⟨z1, z2, z3, z4⟩ := HZ.out hz
        have TA := Lib.hid (tog_run _ al wr RA'.out z4 (by omega))
        rw [z1] at TA
        have q1 : (E2 != 0) = false := by rw [hz]; rfl
        have q2 : ((al.length : Int) == (es.length : Int) + 1) = true := by rw [beq_iff_eq]; omega
        have m1 : IntKind.i64.wrap ((es.length : Int) + 1) = (es.length : Int) + 1 := IntWalk.i64_in _ (by omega)
        clear z1 z2 z3 z4 hz eA eV TX TY RX RY RA HK
        generalize opA fs fs.length = A at *
        generalize opV q fs fs.length = V at *
        go_wp2_with (first
          | (go_at_call 23; (with_reducible refine TX'.out.mono ?_); rintro z w6 ⟨rfl, rfl⟩)
          | (go_at_call 23; (with_reducible refine TY'.out.mono ?_); rintro z w6 ⟨rfl, rfl⟩)
          | (go_at_call 23; (with_reducible refine TA.out.mono ?_); rintro z w6 ⟨rfl, rfl⟩))
        go_ret
        exact ⟨rfl, KE.out⟩
      · have q1 : (E2 != 0) = true := bne_iff_ne.2 hz
        clear hz eA eV TX TY RX RY RA HK
        generalize opA fs fs.length = A at *
        generalize opV q fs fs.length = V at *
        go_wp2_with (first
          | (go_at_call 23; (with_reducible refine TX'.out.mono ?_); rintro z w6 ⟨rfl, rfl⟩)
          | (go_at_call 23; (with_reducible refine TY'.out.mono ?_); rintro z w6 ⟨rfl, rfl⟩))
        go_ret
        exact ⟨rfl, KE.out⟩

theorem rall_plain (W : Int) (lv : Value) (q : Int) (ev v : Value) (hs : List Int) (fs : List (List Int)) (es : List Int) (w : World) (hr : Reads w v hs) (hf : Fits hs) (hF : ReadsF w lv fs) (hE : Reads w ev es) :
    Calls Try.prog 4 #[calV W v, lv, .int .i64 q, ev] w fun e w' => e = .returned (.bool true) ∧ Kpt w w' := by
  by_cases h : checksE fs = 0
  · exact rall_ok W q (ageQ W hs fs q es) v lv ev hs es (ageO W hs q es fs) fs w hr hF hE h (fun w' k => ages_any W q v lv ev hs es fs w' (hr.kpt k) hf (hF.kpt k) (hE.kpt k)) (fun hz => ⟨age_sum hz, age_len hz, (edgE_0 (ageQ_0 hz).2.2.2).1, age_bd hz⟩)
  · exact rall_bad W q v lv ev hs es fs w hr hf hF hE h

end Go.Proofs.Ytmcbebjipiojoaa

-- LawRF
namespace Go.Proofs.Ytmcbebjipiojoaa
open Go.RowKit
set_option linter.unusedVariables false

def lessOf (hs : List Int) (k : Nat) : List Int := hs.take k ++ hs.drop (k + 1)
theorem less_split {hs : List Int} {k : Nat} (hk : k < hs.length) : hs = hs.take k ++ hs.getD k 0 :: hs.drop (k + 1) := by
  rw [List.getD_eq_getElem?_getD, List.getElem?_eq_getElem hk]; simp
def talF {α : Type} (key : α → Nat) (val : α → Int) (j : Nat) (xs : List α) : Int := ((xs.filter fun x => decide (key x = j)).map val).sum
theorem talF_c {α : Type} (key : α → Nat) (val : α → Int) (j : Nat) (x : α) (xs : List α) : talF key val j (x :: xs) = (if key x = j then val x else 0) + talF key val j xs := by
  unfold talF
  by_cases e : key x = j
  · rw [if_pos e, List.filter_cons_of_pos (by simpa using e)]; simp
  · rw [if_neg e, List.filter_cons_of_neg (by simpa using e)]; simp
theorem talF_less {α : Type} (key key' : α → Nat) (val : α → Int) (at' : Nat) (h : ∀ x, key' x = if key x ≤ at' then key x else key x - 1) (j : Nat) (xs : List α) :
    talF key' val j xs = if j < at' then talF key val j xs else if j = at' then talF key val at' xs + talF key val (at' + 1) xs else talF key val (j + 1) xs := by
  induction xs with
  | nil => simp [talF]
  | cons x xs ih =>
    rw [talF_c, ih, h x]
    simp only [talF_c]
    by_cases h1 : j < at'
    · rw [if_pos h1, if_pos h1]
      congr 1
      by_cases e : key x ≤ at'
      · rw [if_pos e]
      · rw [if_neg e, if_neg (by omega), if_neg (by omega)]
    · rw [if_neg h1, if_neg h1]
      by_cases h2 : j = at'
      · rw [if_pos h2, if_pos h2]
        subst h2
        by_cases e : key x ≤ j
        · rw [if_pos e, if_neg (by omega : ¬ key x = j + 1)]; omega
        · rw [if_neg e, if_neg (by omega : ¬ key x = j)]
          by_cases e2 : key x = j + 1
          · rw [if_pos (by omega), if_pos e2]; omega
          · rw [if_neg (by omega), if_neg e2]; omega
      · rw [if_neg h2, if_neg h2]
        congr 1
        by_cases e : key x ≤ at'
        · rw [if_pos e, if_neg (by omega), if_neg (by omega)]
        · rw [if_neg e]
          by_cases e2 : key x = j + 1
          · rw [if_pos (by omega), if_pos e2]
          · rw [if_neg (by omega), if_neg e2]
theorem countP_none {l : List Int} {p : Int → Bool} (h : ∀ x ∈ l, p x = false) : l.countP p = 0 := by
  rw [List.countP_eq_zero]; intro x hx; rw [h x hx]; simp
theorem countP_all {l : List Int} {p : Int → Bool} (h : ∀ x ∈ l, p x = true) : l.countP p = l.length := by
  rw [List.countP_eq_length]; exact h
theorem key_less {es : List Int} {k : Nat} (hs : es.Pairwise (· < ·)) (hk : k < es.length) (c : Int) : (lessOf es k).countP (· < c) = if es.countP (· < c) ≤ k then es.countP (· < c) else es.countP (· < c) - 1 := by
  have sp := less_split hk
  have hs' := hs
  rw [sp] at hs'
  obtain ⟨h1, h2, h3⟩ := List.pairwise_append.1 hs'
  obtain ⟨h4, h5⟩ := List.pairwise_cons.1 h2
  have e : es.countP (· < c) = (es.take k).countP (· < c) + ((if es.getD k 0 < c then 1 else 0) + (es.drop (k + 1)).countP (· < c)) := by
    conv => lhs; rw [sp]
    rw [List.countP_append, List.countP_cons]
    simp only [decide_eq_true_eq]
    omega
  unfold lessOf
  rw [List.countP_append]
  by_cases h : es.getD k 0 < c
  · have t : (es.take k).countP (· < c) = k := by
      rw [countP_all (fun x hx => by
        have := h3 x hx (es.getD k 0) (by simp)
        exact decide_eq_true (by omega)), List.length_take]; omega
    rw [if_pos h] at e
    rw [if_neg (by omega)]
    omega
  · have d : (es.drop (k + 1)).countP (· < c) = 0 := countP_none fun x hx => by
      have := h4 x hx
      exact decide_eq_false (by omega)
    have t : (es.take k).countP (· < c) ≤ k := Nat.le_trans List.countP_le_length (by rw [List.length_take]; omega)
    rw [if_neg h] at e
    rw [if_pos (by omega)]
    omega

/-- an append onto a slice of the call's own, at a step of a region that draws -/
theorem step_append_mine {P : Program} {w : World} {ops : Array Oper} {o : Oper} {a : Act} {K : Act → World → Prop} {Q : Exit → Act → World → Prop} {E : Prop} (hgd : o.guard = none) (s x : Operand) (t : TypeId)
    (ho : o.op = .call { callee := .builtin .append, args := #[s, x], argTypes := #[t, t] })
    (base : Nat) (e : TypeId) (i : TypeInfo) (z : Value) (size bytes : Nat) (ht : P.underlying t = some (.slice e)) (hi : P.info? e = some i) (hz : i.zero = some z)
    (hsize : i.size = size) (hby : i.bytes = bytes) (hzs : z.cells.size = size) (hsz : 0 < size)
    (v : Value) (n : Nat) (xs : List Value) (hs : a.eval s = v) (hown : w.ownsRow base e size v n xs)
    (ad : Addr) (m c : Nat) (news : List Value) (hx : a.eval x = .slice (some ad) m c) (hl : news.length = m * size) (hnews : ∀ j u, news[j]? = some u → w.cell? (ad.add j) = some u) (h1 : ∀ u ∈ news, u.oneCell' = true)
    (h63 : n + m ≤ maxLen) (hbytes : (n + m) * bytes ≤ 140737488355328) (hbase : base ≤ w.heap.size)
    (h : ∀ a' cap w', w'.ownsRow base e size (.slice a' (n + m) cap) (n + m) (xs ++ news) → w.grownBy w' v.ownBlock → K (a.put o.dst (.slice a' (n + m) cap)) w') :
    if Region.wanted o (yielded ops a.tmps) = true then Oper.wp P o a w K Q else E := by
  have hw : Region.wanted o (yielded ops a.tmps) = true := by simp [Region.wanted, hgd]
  rw [if_pos hw]
  obtain ⟨v', w', hr, h2, h3, _, _⟩ := run_append_own_at (P := P) w base t o.type e i z size bytes ht hi hz hsize hby hzs hsz v n xs hown ad m c news hl hnews h1 h63 hbytes hbase
  obtain ⟨a', cap, rfl⟩ : ∃ a' cap, v' = .slice a' (n + m) cap := by
    rcases h2.2 with ⟨e1, e2⟩ | ⟨g, cap, cur, hv, _⟩
    · exact ⟨none, 0, by rw [e1, e2]⟩
    · exact ⟨_, cap, hv⟩
  unfold Oper.wp execOp
  simp only [ho, resolve, invoke, builtin, Sem.run_bind, Sem.run_pure, Result.andThen_ok, List.map_toArray, List.map_cons, List.map_nil, hs, hx, hr]
  exact h a' cap w' h2 h3

theorem owns_empty0 (w : World) : World.ownsRow ((w.alloc (.cells #[] 3)).drew) w.heap.size 3 1 (.slice (some ⟨w.heap.size, 0, none⟩) 0 0) 0 [] :=
  ⟨rfl, .inr ⟨w.heap.size, 0, #[], rfl, Nat.le_refl _, Blk.made w #[] 3, Nat.le_refl _, Nat.zero_le _, rfl, rfl⟩⟩
theorem own_ge {w : World} {base : Nat} {e : TypeId} {size : Nat} {v : Value} {n : Nat} {xs : List Value} (h : w.ownsRow base e size v n xs) : ∀ k, v.ownBlock = some k → base ≤ k := by
  intro k hk
  rcases h.2 with ⟨rfl, _⟩ | ⟨g, cap, cur, rfl, hg, _⟩
  · simp [Value.ownBlock] at hk
  · simp [Value.ownBlock] at hk; omega
theorem own_ne {w : World} {base : Nat} {e : TypeId} {size : Nat} {v : Value} {n : Nat} {xs : List Value} (h : w.ownsRow base e size v n xs) {k : Nat} (hk : k < base) : some k ≠ v.ownBlock := fun e => by
  have := own_ge h k e.symm; omega
theorem own_away {w : World} {base : Nat} {e : TypeId} {size : Nat} {v : Value} {n : Nat} {xs : List Value} (h : w.ownsRow base e size v n xs) {p : Addr} (hp : p.block < base) (u : Value) : (w.setCell p u).ownsRow base e size v n xs := by
  obtain ⟨h1, h2⟩ := h
  refine ⟨h1, ?_⟩
  rcases h2 with h2 | ⟨g, cap, cur, rfl, hg, hh, r⟩
  · exact .inl h2
  · exact .inr ⟨g, cap, cur, rfl, hg, (Below.heap_setCell w p u g (by omega)).trans hh, r⟩
theorem own_reads {w : World} {base n : Nat} {v : Value} {zs : List Int} {xs : List Value} (h : w.ownsRow base 3 1 v n xs) (hx : xs = zs.map (Value.int .i64)) (hn : n = zs.length) : Reads w v zs := by
  subst hx; subst hn
  obtain ⟨a, cap, hv, hr⟩ := Owns.reads (w := w) (base := base) (v := v) (zs := zs) h
  exact hr
theorem less_row (hs : List Int) (k : Nat) : [] ++ ((hs.drop 0).take k).map (Value.int .i64) ++ ((hs.drop (k + 1)).take (hs.length - (k + 1))).map (Value.int .i64) = (lessOf hs k).map (Value.int .i64) := by
  unfold lessOf
  rw [List.drop_zero, List.nil_append, List.map_append, List.take_of_length_le (l := hs.drop (k + 1)) (by rw [List.length_drop]; omega)]
theorem end_none (hs : List Int) (k : Nat) (h : hs.length = k + 1) (w' : World) (ad : Addr) : ∀ (j : Nat) (u : Value), (((hs.drop (k + 1)).take (hs.length - (k + 1))).map (Value.int .i64))[j]? = some u → w'.cell? (ad.add j) = some u := fun j u hu => by
  rw [show hs.length - (k + 1) = 0 by omega, List.take_zero, List.map_nil] at hu
  simp at hu
theorem grown_cell {w w' : World} {row : Option Nat} (g : w.grownBy w' row) {p : Addr} {v : Value} (hc : w.cell? p = some v) (hne : some p.block ≠ row) : w'.cell? p = some v :=
  (World.cell?_of_block (g.block p.block (cell_in hc) hne)).trans hc
theorem kpt_grown {w w1 w2 : World} {row : Option Nat} (h : Kpt w w1) (g : w1.grownBy w2 row) (hr : ∀ k, row = some k → w.heap.size ≤ k) : Kpt w w2 := Below.grown h g h.size hr
theorem less_len' {es : List Int} {k : Nat} (hk : k < es.length) : (lessOf es k).length = k + (es.length - (k + 1)) := by
  unfold lessOf; rw [List.length_append, List.length_take, List.length_drop]; omega
theorem edg_less {es : List Int} {k : Nat} (h : edgE es = 0) : edgE (lessOf es k) = 0 := by
  obtain ⟨h1, h2, h3⟩ := edgE_0 h
  have hs : (lessOf es k).Sublist es := by
    unfold lessOf
    have := List.take_append_drop k es
    conv => rhs; rw [← this]
    exact List.Sublist.append (List.Sublist.refl _) (by
      rw [show k + 1 = 1 + k by omega, ← List.drop_drop]
      first | exact List.drop_sublist _ _ | (rw [List.drop_drop]; rw [show 1 + k = k + 1 by omega, ← List.drop_drop]; exact List.drop_sublist _ _))
  unfold edgE
  rw [if_neg (by have := hs.length_le; omega)]
  have h4 := h2.sublist hs
  have h5 : ∀ e ∈ lessOf es k, 1 ≤ e ∧ e ≤ 3652058 := fun e he => h3 e (hs.subset he)
  have : ∀ (l : List Int) (b : Int), (∀ e ∈ l, b < e) → l.Pairwise (· < ·) → (∀ e ∈ l, 1 ≤ e ∧ e ≤ 3652058) → edgL b l = 0 := by
    intro l
    induction l with
    | nil => intro b _ _ _; rfl
    | cons x l ih =>
      intro b hb hp hl
      have hx := hl x (by simp)
      have hbx := hb x (by simp)
      obtain ⟨p1, p2⟩ := List.pairwise_cons.1 hp
      unfold edgL
      rw [if_neg (by omega), if_neg (by omega)]
      exact ih x p1 p2 fun e he => hl e (by simp [he])
  exact this _ 0 (fun e he => by have := h5 e he; omega) h4 h5
theorem age_less {W q : Int} {hs es : List Int} {fs : List (List Int)} {k : Nat} (h : ageQ W hs fs q es = 0) (hk : k < es.length) :
    ageQ W hs fs q (lessOf es k) = 0 ∧ ∀ j, j < es.length → (ageO W hs q (lessOf es k) fs).getD j 0 = if j < k then (ageO W hs q es fs).getD j 0 else if j = k then (ageO W hs q es fs).getD k 0 + (ageO W hs q es fs).getD (k + 1) 0 else (ageO W hs q es fs).getD (j + 1) 0 := by
  obtain ⟨h1, h2, h3, h4⟩ := ageQ_0 h
  have h' : ageQ W hs fs q (lessOf es k) = 0 := by
    unfold ageQ tdE
    rw [orE_r h1, orE_r h2, if_pos h3, orE_r rfl]
    exact edg_less h4
  refine ⟨h', fun j hj => ?_⟩
  have hl := less_len' hk
  unfold ageO
  rw [if_pos h, if_pos h']
  unfold ageT
  have hkey : ∀ x : Fin fs.length, ageK W hs q (lessOf es k) (fs.getD x.1 []) = if ageK W hs q es (fs.getD x.1 []) ≤ k then ageK W hs q es (fs.getD x.1 []) else ageK W hs q es (fs.getD x.1 []) - 1 := fun x => key_less (edgE_0 h4).2.1 hk _
  have main := talF_less (fun x : Fin fs.length => ageK W hs q es (fs.getD x.1 [])) (fun x : Fin fs.length => ageK W hs q (lessOf es k) (fs.getD x.1 [])) (fun x : Fin fs.length => ageV q (fs.getD x.1 [])) k hkey j (opn fs fs.length)
  rw [tal_at _ _ _ (by omega : j < (lessOf es k).length + 1)]
  have main' := main
  unfold talF at main'
  rw [main']
  split
  · rw [tal_at _ _ _ (by omega : j < es.length + 1)]
  · split
    · rw [tal_at _ _ _ (by omega : k < es.length + 1), tal_at _ _ _ (by omega : k + 1 < es.length + 1)]
    · rw [tal_at _ _ _ (by omega : j + 1 < es.length + 1)]

set_option maxRecDepth 100000 in
set_option maxHeartbeats 4000000 in
theorem rf_mid (W q : Int) (k b off cap : Nat) (v lv : Value) (hs es al bl : List Int) (w : World) (hk : k < es.length) (h40 : es.length ≤ 40) (hlc : es.length ≤ cap) (hE : Reads w (.slice (some ⟨b, off, none⟩) es.length cap) es) (hcap : cap ≠ k + 1)
    (AG : ∀ w', Kpt w w' → Calls Try.prog 8 #[.agg #[.int .i64 W, v], lv, .int .i64 q, .slice (some ⟨b, off, none⟩) es.length cap] w' fun e w'' => ∃ a cap, e = .returned (.tuple #[.slice a al.length cap, .int .i64 0]) ∧ Reads w'' (.slice a al.length cap) al ∧ Kpt w' w'')
    (AL : ∀ w' u, Kpt w w' → Reads w' u (lessOf es k) → Calls Try.prog 8 #[.agg #[.int .i64 W, v], lv, .int .i64 q, u] w' fun e w'' => ∃ a cap, e = .returned (.tuple #[.slice a bl.length cap, .int .i64 0]) ∧ Reads w'' (.slice a bl.length cap) bl ∧ Kpt w' w'')
    (hbl : bl.length = es.length) (hal : al.length = es.length + 1) (hab : ∀ j, 0 ≤ al.getD j 0 ∧ al.getD j 0 ≤ 1099511627776)
    (hj : ∀ j, j < es.length → bl.getD j 0 = if j < k then al.getD j 0 else if j = k then al.getD k 0 + al.getD (k + 1) 0 else al.getD (j + 1) 0) :
    Calls Try.prog 5 #[calV W v, lv, .int .i64 q, .slice (some ⟨b, off, none⟩) es.length cap, .int .i64 (k : Int)] w fun e w' => e = .returned (.bool true) ∧ Kpt w w' := by
  have HAG := Lib.hid AG
  have HAL := Lib.hid AL
  have HJ := Lib.hid hj
  have HAB := Lib.hid hab
  have HBL := Lib.hid hbl
  have HAL' := Lib.hid hal
  have KA : Hid (Kpt w (w.alloc (.cells #[.int .i64 W, v] 24))) := (Kpt.refl w).alloc _
  have BA : Hid (Blk (w.alloc (.cells #[.int .i64 W, v] 24)) w.heap.size #[.int .i64 W, v] 24) := Blk.made _ _ _
  have y1 : decide ((k : Int) < 0) = false := decide_eq_false (by omega)
  have y2 : decide ((es.length : Int) ≤ (k : Int)) = false := decide_eq_false (by omega)
  have hc0 : ∀ j, j < es.length → w.cell? ⟨b, off + j, none⟩ = some (.int .i64 (es.getD j 0)) := by
    rcases hE.cell with ⟨e, _⟩ | ⟨_, b', off', cap', e, hc⟩
    · rw [e] at hk; simp at hk
    · injection e with e1 e2 e3
      injection e1 with e1
      injection e1 with e1 e4 _
      subst e1 e4
      exact hc
  have HC := Lib.hid hc0
  clear AG AL hj hab hbl hal hE hc0
  unfold calV
  go_enter Try.func5, Try.ntmps5
  go_upto_region 6 with (first
    | (go_at_call 8; (with_reducible refine (HAG.out _ KA.out).mono ?_); rintro e w1 ⟨aa, ac, rfl, rd, kk⟩; have K1 := Lib.hid (ktr KA.out kk); have B1 := Lib.hid (BA.out.kpt kk); have R1 := Lib.hid rd; clear rd kk)
    | (go_at_call 19; (with_reducible refine (reportBegun _).mono ?_); rintro e w2 ⟨rfl, k1⟩; have G := Lib.hid (ktr K1.out k1); have B2 := Lib.hid (B1.out.kpt k1); have R2 := Lib.hid (R1.out.kpt k1); clear k1))
  obtain ⟨i0', hi0, hz0, hz1, hz2⟩ := info_parts Try.infoInt
  have NW := Lib.hid (fun w' (g : Kpt w w') (lo m : Nat) (h : lo + m ≤ es.length) j u (hu : (((es.drop lo).take m).map (Value.int .i64))[j]? = some u) => (by
    have hj : j < m := by
      have := (List.getElem?_eq_some_iff.1 hu).1
      simp at this; omega
    have hlj : lo + j < es.length := by omega
    rw [List.getElem?_map, List.getElem?_take_of_lt hj, List.getElem?_drop, List.getElem?_eq_getElem hlj] at hu
    have hadd : (⟨b, off + lo, none⟩ : Addr).add j = ⟨b, off + (lo + j), none⟩ := by simp [Addr.add, Nat.add_assoc]
    rw [hadd]
    have := g.cell (HC.out (lo + j) hlj)
    rw [this, ← Option.some.inj hu, List.getD_eq_getElem?_getD, List.getElem?_eq_getElem hlj]; rfl : w'.cell? ((⟨b, off + lo, none⟩ : Addr).add j) = some u))
  have b2 : (k : Int) ≤ (cap : Int) := by omega
  have b3 : (0 : Int) ≤ (k : Int) + 1 := by omega
  have b4 : (k : Int) + 1 ≤ (es.length : Int) := by omega
  have b5 : IntKind.i64.wrap ((k : Int) + 1) = (k : Int) + 1 := IntWalk.i64_in _ (by omega)
  have b6 : ((k : Int) + 1).toNat = k + 1 := by omega
  have b7 : ¬ (cap = k + 1) := by omega
  have b8 : ¬ (cap = k) := by omega
  have b9 : (es.length : Int) ≤ (cap : Int) := by omega
  have b10 : (k : Int) + 1 ≤ (cap : Int) := by omega
  have EB : Hid (World.ownsRow ((w2.alloc (.cells #[] 3)).drew) w2.heap.size 3 1 (.slice (some ⟨w2.heap.size, 0, none⟩) 0 0) 0 []) := owns_empty0 w2
  have K2 : Hid (Kpt w ((w2.alloc (.cells #[] 3)).drew)) := Below.drew (G.out.alloc _)
  have M2 : Hid (Kpt w2 ((w2.alloc (.cells #[] 3)).drew)) := Below.drew ((Kpt.refl w2).alloc _)
  have c0 : w2.cell? ⟨w.heap.size, 0, none⟩ = some (.int .i64 W) := B2.out.cell 0
  have D0 := Lib.hid (M2.out.cell c0)
  have SL : Hid ((((es.drop 0).take k).map (Value.int .i64)).length = k * 1) := (by simp; omega : (((es.drop 0).take k).map (Value.int .i64)).length = k * 1)
  have SL2 : Hid ((((es.drop (k + 1)).take (es.length - (k + 1))).map (Value.int .i64)).length = (es.length - (k + 1)) * 1) := (by simp : (((es.drop (k + 1)).take (es.length - (k + 1))).map (Value.int .i64)).length = (es.length - (k + 1)) * 1)
  have Q1 := Lib.hid (NW.out _ K2.out 0 k (by omega))
  have one : ∀ (l : List Int), ∀ u ∈ l.map (Value.int .i64), u.oneCell' = true := fun l u hu => by
    obtain ⟨x, _, rfl⟩ := List.mem_map.1 hu
    rfl
  have O1 := Lib.hid one
  clear one
  have m1 : 0 + k ≤ maxLen := by unfold maxLen; omega
  have m2 : (0 + k) * 8 ≤ 140737488355328 := by omega
  have m3 : 0 + k + (es.length - (k + 1)) ≤ maxLen := by unfold maxLen; omega
  have m4 : (0 + k + (es.length - (k + 1))) * 8 ≤ 140737488355328 := by omega
  have z1 : w.heap.size < w2.heap.size := B2.out.lt
  have S1 : Hid (w2.heap.size ≤ ((w2.alloc (.cells #[] 3)).drew).heap.size) := (by simp : w2.heap.size ≤ ((w2.alloc (.cells #[] 3)).drew).heap.size)
  have l4 : k + 1 + (es.length - (k + 1)) ≤ es.length := by omega
  go_region_held3 (fun w' => w'.cell? ⟨w.heap.size, 0, none⟩ = some (.int .i64 W))
    ((first | exact D0.out | assumption | go_keep))
    (first
      | ((refine step_append_mine (by rfl) _ _ _ (by rfl) w2.heap.size 3 i0' _ 1 8 Try.underlying22 hi0 hz0 hz1 hz2 rfl Nat.one_pos _ 0 [] (by rfl) EB.out ⟨b, off + 0, none⟩ k cap (((es.drop 0).take k).map (Value.int .i64)) (by rfl) SL.out Q1.out (O1.out _) m1 m2 S1.out ?_); intro a1 cp1 w3 ho hg; have HO := Lib.hid ho; have E0 := grown_cell hg D0.out (own_ne EB.out z1); have K3 := Lib.hid (kpt_grown K2.out hg (fun q hq => Nat.le_trans (Nat.le_of_lt z1) (own_ge EB.out q hq))); have M3 := Lib.hid (kpt_grown M2.out hg (fun q hq => own_ge EB.out q hq)); have SZ := Lib.hid hg.size; clear ho hg)
      | ((refine step_append_mine (by rfl) _ _ _ (by rfl) w2.heap.size 3 i0' _ 1 8 Try.underlying22 hi0 hz0 hz1 hz2 rfl Nat.one_pos _ (0 + k) _ (by rfl) HO.out ⟨b, off + (k + 1), none⟩ (es.length - (k + 1)) (cap - (k + 1)) (((es.drop (k + 1)).take (es.length - (k + 1))).map (Value.int .i64)) (by rfl) SL2.out (NW.out _ K3.out (k + 1) (es.length - (k + 1)) l4) (O1.out _) m3 m4 (Nat.le_trans S1.out SZ.out) ?_); intro a2 cp2 w4 ho2 hg2; have HO2 := Lib.hid ho2; have F0 := grown_cell hg2 E0 (own_ne HO.out z1); have K4 := Lib.hid (kpt_grown K3.out hg2 (fun q hq => Nat.le_trans (Nat.le_of_lt z1) (own_ge HO.out q hq))); have M4 := Lib.hid (kpt_grown M3.out hg2 (fun q hq => own_ge HO.out q hq)); clear ho2 hg2))
  have O3 := HO2.out
  rw [show 0 + k + (es.length - (k + 1)) = k + (es.length - (k + 1)) by omega] at O3
  have RL := Lib.hid (own_reads O3 (less_row es k) (less_len' hk).symm)
  have B4 := Lib.hid (B2.out.kpt M4.out)
  have R4 := Lib.hid (R2.out.kpt M4.out)
  have e0 : w4.cell? ⟨w.heap.size, 0, none⟩ = some (.int .i64 W) := B4.out.cell 0
  have e1 : w4.cell? ⟨w.heap.size, 1, none⟩ = some v := B4.out.cell 1
  have HK := Lib.hid hk
  have H40 := Lib.hid h40
  clear O3 E0 F0 HO2 HO EB K2 D0 SL SL2 Q1 O1 S1 SZ K3 NW HC b2 b3 b4 b5 b6 b8 b9 b7 b10 m1 m2 m3 m4 M2 M3 M4 c0
  have q1 : ((al.length : Int) != (bl.length : Int) + 1) = false := by have := HBL.out; have := HAL'.out; rw [bne_eq_false_iff_eq]; omega
  have q2 : IntKind.i64.wrap ((bl.length : Int) + 1) = (bl.length : Int) + 1 := IntWalk.i64_in _ (by have := HBL.out; have := H40.out; omega)
  go_wp2_with (go_at_call 8; (with_reducible refine (HAL.out _ _ K4.out RL.out).mono ?_); rintro e w5 ⟨ba, bc, rfl, rd, kk⟩; have K5 := Lib.hid (ktr K4.out kk); have R5 := Lib.hid (R4.out.kpt kk); have S5 := Lib.hid rd; clear rd kk)
  have RA := Lib.hid R5.out.sl
  have RB := Lib.hid S5.out.sl
  have LB : Hid (bl.length ≤ 40) := by unfold Hid; have := HBL.out; have := H40.out; omega
  have LK : Hid (k < bl.length) := by unfold Hid; have := HBL.out; have := HK.out; omega
  clear q1 q2 y1 y2 R5 S5 RL B4 R4 e0 e1 hi0 hz0 hz1 hz2 R1 R2 B1 B2 HAG HAL BA KA K1 G K4 h40 l4
  go_loop [16] (fun ii => ∃ j : Nat, j ≤ bl.length ∧ ii = .int .i64 (j : Int)) (fun ii => bl.length - (intOf ii).toNat)
  case atStart => exact ⟨0, Nat.zero_le _, rfl⟩
  case round =>
    obtain ⟨j, hj, rfl⟩ := hrel
    by_cases hlt : j < bl.length
    · have lj : j < es.length := by have := HBL.out; omega
      have lk := LK.out
      have l40 := LB.out
      have la : al.length = bl.length + 1 := by have := HBL.out; have := HAL'.out; omega
      have hjj := HJ.out j lj
      obtain ⟨gb, ob, rfl, cb⟩ := RB.out j hlt
      have y3 : decide ((j : Int) < (bl.length : Int)) = true := decide_eq_true (by omega)
      have i0 : (0 : Int) ≤ (j : Int) := by omega
      have i1 : (j : Int) < (bl.length : Int) := by omega
      have m0 : IntKind.i64.wrap ((j : Int) + 1) = (j : Int) + 1 := IntWalk.i64_in _ (by omega)
      by_cases h1 : j < k
      · rw [if_pos h1] at hjj
        obtain ⟨ga, oa, rfl, ca⟩ := RA.out j (by omega)
        have t1 : decide ((k : Int) < (j : Int)) = false := decide_eq_false (by omega)
        have t1' : decide (k < j) = false := decide_eq_false (by omega)
        have t2 : ((j : Int) == (k : Int)) = false := by rw [beq_eq_false_iff_ne]; omega
        have t2' : (j == k) = false := by rw [beq_eq_false_iff_ne]; omega
        have i2 : (j : Int) < (al.length : Int) := by omega
        have t3 : (bl.getD j 0 != al.getD j 0) = false := by rw [hjj]; simp
        clear hjj la
        generalize bl.getD j 0 = X at *
        generalize al.getD j 0 = Y at *
        go_wp2
        go_round
        case rel => exact ⟨j + 1, by omega, by go_num⟩
        case measure => simp [intOf]; omega
      · rw [if_neg h1] at hjj
        by_cases h2 : j = k
        · rw [if_pos h2] at hjj
          obtain ⟨ga, oa, rfl, ca⟩ := RA.out j (by omega)
          obtain ⟨ga', oa', e', cc⟩ := RA.out (j + 1) (by omega)
          injection e' with e'
          injection e' with e1' e2' _
          subst e1' e2'
          have cc' : w5.cell? ⟨ga, oa + (j + 1), none⟩ = some (.int .i64 (al.getD (j + 1) 0)) := cc
          have t1 : decide ((k : Int) < (j : Int)) = false := decide_eq_false (by omega)
          have t1' : decide (k < j) = false := decide_eq_false (by omega)
          have t2 : ((j : Int) == (k : Int)) = true := by rw [beq_iff_eq]; omega
          have t2' : (j == k) = true := by rw [beq_iff_eq]; omega
          have i2 : (j : Int) < (al.length : Int) := by omega
          have i3 : (j : Int) + 1 < (al.length : Int) := by omega
          have i4 : (0 : Int) ≤ (j : Int) + 1 := by omega
          have i5 : ((j : Int) + 1).toNat = j + 1 := by omega
          have b0 := HAB.out j
          have b1 := HAB.out (j + 1)
          rw [← h2] at hjj
          have t3 : (bl.getD j 0 != al.getD j 0 + al.getD (j + 1) 0) = false := by rw [hjj]; simp
          have m3 : IntKind.i64.wrap (al.getD j 0 + al.getD (j + 1) 0) = al.getD j 0 + al.getD (j + 1) 0 := IntWalk.i64_in _ (by omega)
          clear hjj la cc b0 b1 h2
          generalize bl.getD j 0 = X at *
          generalize al.getD j 0 = Y at *
          generalize al.getD (j + 1) 0 = Z at *
          go_wp2
          go_round
          case rel => exact ⟨j + 1, by omega, by go_num⟩
          case measure => simp [intOf]; omega
        · rw [if_neg h2] at hjj
          obtain ⟨ga, oa, rfl, ca⟩ := RA.out (j + 1) (by omega)
          have t1 : decide ((k : Int) < (j : Int)) = true := decide_eq_true (by omega)
          have t1' : decide (k < j) = true := decide_eq_true (by omega)
          have t2 : ((j : Int) == (k : Int)) = false := by rw [beq_eq_false_iff_ne]; omega
          have t2' : (j == k) = false := by rw [beq_eq_false_iff_ne]; omega
          have i3 : (j : Int) + 1 < (al.length : Int) := by omega
          have i4 : (0 : Int) ≤ (j : Int) + 1 := by omega
          have i5 : ((j : Int) + 1).toNat = j + 1 := by omega
          have t3 : (bl.getD j 0 != al.getD (j + 1) 0) = false := by rw [hjj]; simp
          clear hjj la
          generalize bl.getD j 0 = X at *
          generalize al.getD (j + 1) 0 = Z at *
          go_wp2
          go_round
          case rel => exact ⟨j + 1, by omega, by go_num⟩
          case measure => simp [intOf]; omega
    · have y3 : decide ((j : Int) < (bl.length : Int)) = false := decide_eq_false (by omega)
      go_wp2
      go_ret
      exact ⟨rfl, K5.out⟩


set_option maxRecDepth 100000 in
set_option maxHeartbeats 4000000 in
theorem rf_end (W q : Int) (k b off cap : Nat) (v lv : Value) (hs es al bl : List Int) (w : World) (hk : k < es.length) (h40 : es.length ≤ 40) (hlc : es.length ≤ cap) (hE : Reads w (.slice (some ⟨b, off, none⟩) es.length (k + 1)) es) (hend : es.length = k + 1) (hcap : cap = k + 1)
    (AG : ∀ w', Kpt w w' → Calls Try.prog 8 #[.agg #[.int .i64 W, v], lv, .int .i64 q, .slice (some ⟨b, off, none⟩) es.length (k + 1)] w' fun e w'' => ∃ a cap, e = .returned (.tuple #[.slice a al.length cap, .int .i64 0]) ∧ Reads w'' (.slice a al.length cap) al ∧ Kpt w' w'')
    (AL : ∀ w' u, Kpt w w' → Reads w' u (lessOf es k) → Calls Try.prog 8 #[.agg #[.int .i64 W, v], lv, .int .i64 q, u] w' fun e w'' => ∃ a cap, e = .returned (.tuple #[.slice a bl.length cap, .int .i64 0]) ∧ Reads w'' (.slice a bl.length cap) bl ∧ Kpt w' w'')
    (hbl : bl.length = es.length) (hal : al.length = es.length + 1) (hab : ∀ j, 0 ≤ al.getD j 0 ∧ al.getD j 0 ≤ 1099511627776)
    (hj : ∀ j, j < es.length → bl.getD j 0 = if j < k then al.getD j 0 else if j = k then al.getD k 0 + al.getD (k + 1) 0 else al.getD (j + 1) 0) :
    Calls Try.prog 5 #[calV W v, lv, .int .i64 q, .slice (some ⟨b, off, none⟩) es.length (k + 1), .int .i64 (k : Int)] w fun e w' => e = .returned (.bool true) ∧ Kpt w w' := by
  have HAG := Lib.hid AG
  have HAL := Lib.hid AL
  have HJ := Lib.hid hj
  have HAB := Lib.hid hab
  have HBL := Lib.hid hbl
  have HAL' := Lib.hid hal
  subst hcap
  have KA : Hid (Kpt w (w.alloc (.cells #[.int .i64 W, v] 24))) := (Kpt.refl w).alloc _
  have BA : Hid (Blk (w.alloc (.cells #[.int .i64 W, v] 24)) w.heap.size #[.int .i64 W, v] 24) := Blk.made _ _ _
  have y1 : decide ((k : Int) < 0) = false := decide_eq_false (by omega)
  have y2 : decide ((es.length : Int) ≤ (k : Int)) = false := decide_eq_false (by omega)
  have hc0 : ∀ j, j < es.length → w.cell? ⟨b, off + j, none⟩ = some (.int .i64 (es.getD j 0)) := by
    rcases hE.cell with ⟨e, _⟩ | ⟨_, b', off', cap', e, hc⟩
    · rw [e] at hk; simp at hk
    · injection e with e1 e2 e3
      injection e1 with e1
      injection e1 with e1 e4 _
      subst e1 e4
      exact hc
  have HC := Lib.hid hc0
  have NE := Lib.hid (fun w' ad => end_none es k hend w' ad)
  have HEND := Lib.hid hend
  clear hend hlc
  clear AG AL hj hab hbl hal hE hc0
  unfold calV
  go_enter Try.func5, Try.ntmps5
  go_upto_region 6 with (first
    | (go_at_call 8; (with_reducible refine (HAG.out _ KA.out).mono ?_); rintro e w1 ⟨aa, ac, rfl, rd, kk⟩; have K1 := Lib.hid (ktr KA.out kk); have B1 := Lib.hid (BA.out.kpt kk); have R1 := Lib.hid rd; clear rd kk)
    | (go_at_call 19; (with_reducible refine (reportBegun _).mono ?_); rintro e w2 ⟨rfl, k1⟩; have G := Lib.hid (ktr K1.out k1); have B2 := Lib.hid (B1.out.kpt k1); have R2 := Lib.hid (R1.out.kpt k1); clear k1))
  obtain ⟨i0', hi0, hz0, hz1, hz2⟩ := info_parts Try.infoInt
  have NW := Lib.hid (fun w' (g : Kpt w w') (lo m : Nat) (h : lo + m ≤ es.length) j u (hu : (((es.drop lo).take m).map (Value.int .i64))[j]? = some u) => (by
    have hj : j < m := by
      have := (List.getElem?_eq_some_iff.1 hu).1
      simp at this; omega
    have hlj : lo + j < es.length := by omega
    rw [List.getElem?_map, List.getElem?_take_of_lt hj, List.getElem?_drop, List.getElem?_eq_getElem hlj] at hu
    have hadd : (⟨b, off + lo, none⟩ : Addr).add j = ⟨b, off + (lo + j), none⟩ := by simp [Addr.add, Nat.add_assoc]
    rw [hadd]
    have := g.cell (HC.out (lo + j) hlj)
    rw [this, ← Option.some.inj hu, List.getD_eq_getElem?_getD, List.getElem?_eq_getElem hlj]; rfl : w'.cell? ((⟨b, off + lo, none⟩ : Addr).add j) = some u))
  have b2 : (k : Int) ≤ (k : Int) + 1 := by omega
  have b3 : (0 : Int) ≤ (k : Int) + 1 := by omega
  have b4 : (k : Int) + 1 ≤ (es.length : Int) := by omega
  have b5 : IntKind.i64.wrap ((k : Int) + 1) = (k : Int) + 1 := IntWalk.i64_in _ (by omega)
  have b6 : ((k : Int) + 1).toNat = k + 1 := by omega
  have b8 : k ≤ k + 1 := by omega
  have b9 : (es.length : Int) ≤ (k : Int) + 1 := by have := HEND.out; omega
  have EB : Hid (World.ownsRow ((w2.alloc (.cells #[] 3)).drew) w2.heap.size 3 1 (.slice (some ⟨w2.heap.size, 0, none⟩) 0 0) 0 []) := owns_empty0 w2
  have K2 : Hid (Kpt w ((w2.alloc (.cells #[] 3)).drew)) := Below.drew (G.out.alloc _)
  have M2 : Hid (Kpt w2 ((w2.alloc (.cells #[] 3)).drew)) := Below.drew ((Kpt.refl w2).alloc _)
  have c0 : w2.cell? ⟨w.heap.size, 0, none⟩ = some (.int .i64 W) := B2.out.cell 0
  have D0 := Lib.hid (M2.out.cell c0)
  have SL : Hid ((((es.drop 0).take k).map (Value.int .i64)).length = k * 1) := (by simp; omega : (((es.drop 0).take k).map (Value.int .i64)).length = k * 1)
  have SL2 : Hid ((((es.drop (k + 1)).take (es.length - (k + 1))).map (Value.int .i64)).length = (es.length - (k + 1)) * 1) := (by simp : (((es.drop (k + 1)).take (es.length - (k + 1))).map (Value.int .i64)).length = (es.length - (k + 1)) * 1)
  have Q1 := Lib.hid (NW.out _ K2.out 0 k (by omega))
  have one : ∀ (l : List Int), ∀ u ∈ l.map (Value.int .i64), u.oneCell' = true := fun l u hu => by
    obtain ⟨x, _, rfl⟩ := List.mem_map.1 hu
    rfl
  have O1 := Lib.hid one
  clear one
  have m1 : 0 + k ≤ maxLen := by unfold maxLen; omega
  have m2 : (0 + k) * 8 ≤ 140737488355328 := by omega
  have m3 : 0 + k + (es.length - (k + 1)) ≤ maxLen := by unfold maxLen; omega
  have m4 : (0 + k + (es.length - (k + 1))) * 8 ≤ 140737488355328 := by omega
  have z1 : w.heap.size < w2.heap.size := B2.out.lt
  have S1 : Hid (w2.heap.size ≤ ((w2.alloc (.cells #[] 3)).drew).heap.size) := (by simp : w2.heap.size ≤ ((w2.alloc (.cells #[] 3)).drew).heap.size)
  have l4 : k + 1 + (es.length - (k + 1)) ≤ es.length := by omega
  go_region_held3 (fun w' => w'.cell? ⟨w.heap.size, 0, none⟩ = some (.int .i64 W))
    ((first | exact D0.out | assumption | go_keep))
    (first
      | ((refine step_append_mine (by rfl) _ _ _ (by rfl) w2.heap.size 3 i0' _ 1 8 Try.underlying22 hi0 hz0 hz1 hz2 rfl Nat.one_pos _ 0 [] (by rfl) EB.out ⟨b, off + 0, none⟩ k (k + 1) (((es.drop 0).take k).map (Value.int .i64)) (by rfl) SL.out Q1.out (O1.out _) m1 m2 S1.out ?_); intro a1 cp1 w3 ho hg; have HO := Lib.hid ho; have E0 := grown_cell hg D0.out (own_ne EB.out z1); have K3 := Lib.hid (kpt_grown K2.out hg (fun q hq => Nat.le_trans (Nat.le_of_lt z1) (own_ge EB.out q hq))); have M3 := Lib.hid (kpt_grown M2.out hg (fun q hq => own_ge EB.out q hq)); have SZ := Lib.hid hg.size; clear ho hg)
      | ((refine step_append_mine (by rfl) _ _ _ (by rfl) w2.heap.size 3 i0' _ 1 8 Try.underlying22 hi0 hz0 hz1 hz2 rfl Nat.one_pos _ (0 + k) _ (by rfl) HO.out ⟨b, off, none⟩ (es.length - (k + 1)) 0 (((es.drop (k + 1)).take (es.length - (k + 1))).map (Value.int .i64)) (by rfl) SL2.out (NE.out _ _) (O1.out _) m3 m4 (Nat.le_trans S1.out SZ.out) ?_); intro a2 cp2 w4 ho2 hg2; have HO2 := Lib.hid ho2; have F0 := grown_cell hg2 E0 (own_ne HO.out z1); have K4 := Lib.hid (kpt_grown K3.out hg2 (fun q hq => Nat.le_trans (Nat.le_of_lt z1) (own_ge HO.out q hq))); have M4 := Lib.hid (kpt_grown M3.out hg2 (fun q hq => own_ge HO.out q hq)); clear ho2 hg2))
  have O3 := HO2.out
  rw [show 0 + k + (es.length - (k + 1)) = k + (es.length - (k + 1)) by omega] at O3
  have RL := Lib.hid (own_reads O3 (less_row es k) (less_len' hk).symm)
  have B4 := Lib.hid (B2.out.kpt M4.out)
  have R4 := Lib.hid (R2.out.kpt M4.out)
  have e0 : w4.cell? ⟨w.heap.size, 0, none⟩ = some (.int .i64 W) := B4.out.cell 0
  have e1 : w4.cell? ⟨w.heap.size, 1, none⟩ = some v := B4.out.cell 1
  have HK := Lib.hid hk
  have H40 := Lib.hid h40
  clear O3 E0 F0 HO2 HO EB K2 D0 SL SL2 Q1 O1 S1 SZ K3 NW HC b2 b3 b4 b5 b6 b8 b9 m1 m2 m3 m4 M2 M3 M4 c0
  have q1 : ((al.length : Int) != (bl.length : Int) + 1) = false := by have := HBL.out; have := HAL'.out; rw [bne_eq_false_iff_eq]; omega
  have q2 : IntKind.i64.wrap ((bl.length : Int) + 1) = (bl.length : Int) + 1 := IntWalk.i64_in _ (by have := HBL.out; have := H40.out; omega)
  go_wp2_with (go_at_call 8; (with_reducible refine (HAL.out _ _ K4.out RL.out).mono ?_); rintro e w5 ⟨ba, bc, rfl, rd, kk⟩; have K5 := Lib.hid (ktr K4.out kk); have R5 := Lib.hid (R4.out.kpt kk); have S5 := Lib.hid rd; clear rd kk)
  have RA := Lib.hid R5.out.sl
  have RB := Lib.hid S5.out.sl
  have LB : Hid (bl.length ≤ 40) := by unfold Hid; have := HBL.out; have := H40.out; omega
  have LK : Hid (k < bl.length) := by unfold Hid; have := HBL.out; have := HK.out; omega
  clear q1 q2 y1 y2 R5 S5 RL B4 R4 e0 e1 hi0 hz0 hz1 hz2 R1 R2 B1 B2 HAG HAL BA KA K1 G K4 h40 l4
  go_loop [16] (fun ii => ∃ j : Nat, j ≤ bl.length ∧ ii = .int .i64 (j : Int)) (fun ii => bl.length - (intOf ii).toNat)
  case atStart => exact ⟨0, Nat.zero_le _, rfl⟩
  case round =>
    obtain ⟨j, hj, rfl⟩ := hrel
    by_cases hlt : j < bl.length
    · have lj : j < es.length := by have := HBL.out; omega
      have lk := LK.out
      have l40 := LB.out
      have la : al.length = bl.length + 1 := by have := HBL.out; have := HAL'.out; omega
      have hjj := HJ.out j lj
      obtain ⟨gb, ob, rfl, cb⟩ := RB.out j hlt
      have y3 : decide ((j : Int) < (bl.length : Int)) = true := decide_eq_true (by omega)
      have i0 : (0 : Int) ≤ (j : Int) := by omega
      have i1 : (j : Int) < (bl.length : Int) := by omega
      have m0 : IntKind.i64.wrap ((j : Int) + 1) = (j : Int) + 1 := IntWalk.i64_in _ (by omega)
      by_cases h1 : j < k
      · rw [if_pos h1] at hjj
        obtain ⟨ga, oa, rfl, ca⟩ := RA.out j (by omega)
        have t1 : decide ((k : Int) < (j : Int)) = false := decide_eq_false (by omega)
        have t1' : decide (k < j) = false := decide_eq_false (by omega)
        have t2 : ((j : Int) == (k : Int)) = false := by rw [beq_eq_false_iff_ne]; omega
        have t2' : (j == k) = false := by rw [beq_eq_false_iff_ne]; omega
        have i2 : (j : Int) < (al.length : Int) := by omega
        have t3 : (bl.getD j 0 != al.getD j 0) = false := by rw [hjj]; simp
        clear hjj la
        generalize bl.getD j 0 = X at *
        generalize al.getD j 0 = Y at *
        go_wp2
        go_round
        case rel => exact ⟨j + 1, by omega, by go_num⟩
        case measure => simp [intOf]; omega
      · rw [if_neg h1] at hjj
        by_cases h2 : j = k
        · rw [if_pos h2] at hjj
          obtain ⟨ga, oa, rfl, ca⟩ := RA.out j (by omega)
          obtain ⟨ga', oa', e', cc⟩ := RA.out (j + 1) (by omega)
          injection e' with e'
          injection e' with e1' e2' _
          subst e1' e2'
          have cc' : w5.cell? ⟨ga, oa + (j + 1), none⟩ = some (.int .i64 (al.getD (j + 1) 0)) := cc
          have t1 : decide ((k : Int) < (j : Int)) = false := decide_eq_false (by omega)
          have t1' : decide (k < j) = false := decide_eq_false (by omega)
          have t2 : ((j : Int) == (k : Int)) = true := by rw [beq_iff_eq]; omega
          have t2' : (j == k) = true := by rw [beq_iff_eq]; omega
          have i2 : (j : Int) < (al.length : Int) := by omega
          have i3 : (j : Int) + 1 < (al.length : Int) := by omega
          have i4 : (0 : Int) ≤ (j : Int) + 1 := by omega
          have i5 : ((j : Int) + 1).toNat = j + 1 := by omega
          have b0 := HAB.out j
          have b1 := HAB.out (j + 1)
          rw [← h2] at hjj
          have t3 : (bl.getD j 0 != al.getD j 0 + al.getD (j + 1) 0) = false := by rw [hjj]; simp
          have m3 : IntKind.i64.wrap (al.getD j 0 + al.getD (j + 1) 0) = al.getD j 0 + al.getD (j + 1) 0 := IntWalk.i64_in _ (by omega)
          clear hjj la cc b0 b1 h2
          generalize bl.getD j 0 = X at *
          generalize al.getD j 0 = Y at *
          generalize al.getD (j + 1) 0 = Z at *
          go_wp2
          go_round
          case rel => exact ⟨j + 1, by omega, by go_num⟩
          case measure => simp [intOf]; omega
        · rw [if_neg h2] at hjj
          obtain ⟨ga, oa, rfl, ca⟩ := RA.out (j + 1) (by omega)
          have t1 : decide ((k : Int) < (j : Int)) = true := decide_eq_true (by omega)
          have t1' : decide (k < j) = true := decide_eq_true (by omega)
          have t2 : ((j : Int) == (k : Int)) = false := by rw [beq_eq_false_iff_ne]; omega
          have t2' : (j == k) = false := by rw [beq_eq_false_iff_ne]; omega
          have i3 : (j : Int) + 1 < (al.length : Int) := by omega
          have i4 : (0 : Int) ≤ (j : Int) + 1 := by omega
          have i5 : ((j : Int) + 1).toNat = j + 1 := by omega
          have t3 : (bl.getD j 0 != al.getD (j + 1) 0) = false := by rw [hjj]; simp
          clear hjj la
          generalize bl.getD j 0 = X at *
          generalize al.getD (j + 1) 0 = Z at *
          go_wp2
          go_round
          case rel => exact ⟨j + 1, by omega, by go_num⟩
          case measure => simp [intOf]; omega
    · have y3 : decide ((j : Int) < (bl.length : Int)) = false := decide_eq_false (by omega)
      go_wp2
      go_ret
      exact ⟨rfl, K5.out⟩



theorem rf_pre : True := trivial
set_option maxRecDepth 100000 in
set_option maxHeartbeats 4000000 in
theorem rf_err (W q E at' : Int) (v lv ev : Value) (n : Nat) (w : World) (hE : (E != 0) = true) (hv : ∃ a cap, ev = .slice a n cap)
    (AG : ∀ w', Kpt w w' → Calls Try.prog 8 #[.agg #[.int .i64 W, v], lv, .int .i64 q, ev] w' fun e w'' => ∃ a cap, e = .returned (.tuple #[.slice a 0 cap, .int .i64 E]) ∧ Kpt w' w'') :
    Calls Try.prog 5 #[calV W v, lv, .int .i64 q, ev, .int .i64 at'] w fun e w' => e = .returned (.bool true) ∧ Kpt w w' := by
  have HAG := Lib.hid AG
  obtain ⟨a, cap, rfl⟩ := hv
  have KA : Hid (Kpt w (w.alloc (.cells #[.int .i64 W, v] 24))) := (Kpt.refl w).alloc _
  have y0 : (E == 0) = false := by rw [beq_eq_false_iff_ne]; exact bne_iff_ne.1 hE
  clear AG
  unfold calV
  go_enter Try.func5, Try.ntmps5
  go_wp2_with (first
    | (go_at_call 8; (with_reducible refine (HAG.out _ KA.out).mono ?_); rintro e w1 ⟨aa, ac, rfl, kk⟩; have K1 := Lib.hid (ktr KA.out kk); clear kk)
    | (go_at_call 19; (with_reducible refine (reportBegun _).mono ?_); rintro e w2 ⟨rfl, k1⟩; have G := Lib.hid (ktr K1.out k1); clear k1))
  go_ret
  exact ⟨rfl, G.out⟩
set_option maxRecDepth 100000 in
set_option maxHeartbeats 4000000 in
theorem rf_rng (W q at' : Int) (v lv ev : Value) (n m : Nat) (w : World) (hi : at' < 0 ∨ (n : Int) ≤ at') (hv : ∃ a cap, ev = .slice a n cap)
    (AG : ∀ w', Kpt w w' → Calls Try.prog 8 #[.agg #[.int .i64 W, v], lv, .int .i64 q, ev] w' fun e w'' => ∃ a cap, e = .returned (.tuple #[.slice a m cap, .int .i64 0]) ∧ Kpt w' w'') :
    Calls Try.prog 5 #[calV W v, lv, .int .i64 q, ev, .int .i64 at'] w fun e w' => e = .returned (.bool true) ∧ Kpt w w' := by
  have HAG := Lib.hid AG
  obtain ⟨a, cap, rfl⟩ := hv
  have KA : Hid (Kpt w (w.alloc (.cells #[.int .i64 W, v] 24))) := (Kpt.refl w).alloc _
  clear AG
  unfold calV
  by_cases h0 : at' < 0
  · have q1 : decide (at' < 0) = true := decide_eq_true h0
    clear h0 hi
    go_enter Try.func5, Try.ntmps5
    go_wp2_with (first
      | (go_at_call 8; (with_reducible refine (HAG.out _ KA.out).mono ?_); rintro e w1 ⟨aa, ac, rfl, kk⟩; have K1 := Lib.hid (ktr KA.out kk); clear kk)
      | (go_at_call 19; (with_reducible refine (reportBegun _).mono ?_); rintro e w2 ⟨rfl, k1⟩; have G := Lib.hid (ktr K1.out k1); clear k1))
    go_ret
    exact ⟨rfl, G.out⟩
  · have q1 : decide (at' < 0) = false := decide_eq_false h0
    have q2 : decide ((n : Int) ≤ at') = true := decide_eq_true (by omega)
    clear h0 hi
    go_enter Try.func5, Try.ntmps5
    go_wp2_with (first
      | (go_at_call 8; (with_reducible refine (HAG.out _ KA.out).mono ?_); rintro e w1 ⟨aa, ac, rfl, kk⟩; have K1 := Lib.hid (ktr KA.out kk); clear kk)
      | (go_at_call 19; (with_reducible refine (reportBegun _).mono ?_); rintro e w2 ⟨rfl, k1⟩; have G := Lib.hid (ktr K1.out k1); clear k1))
    go_ret
    exact ⟨rfl, G.out⟩

theorem rfin_plain (W : Int) (lv : Value) (q : Int) (ev : Value) (at' : Int) (v : Value) (hs : List Int) (fs : List (List Int)) (es : List Int) (w : World) (hr : Reads w v hs) (hf : Fits hs) (hF : ReadsF w lv fs) (_ : ∃ a n cap, lv = .slice a n cap ∧ n ≤ cap ∧ cap ≤ maxLen) (hE : Reads w ev es) (hc : ∃ a n cap, ev = .slice a n cap ∧ n ≤ cap ∧ cap ≤ maxLen) :
    Calls Try.prog 5 #[calV W v, lv, .int .i64 q, ev, .int .i64 at'] w fun e w' => e = .returned (.bool true) ∧ Kpt w w' := by
  have AG := fun w' (k : Kpt w w') => ages_any W q v lv ev hs es fs w' (hr.kpt k) hf (hF.kpt k) (hE.kpt k)
  obtain ⟨a, n, cap, rfl, hn, hm⟩ := hc
  obtain ⟨a', cap', e, -⟩ := id hE
  injection e with e1 e2 e3
  subst e1 e2 e3
  by_cases hz : ageQ W hs fs q es = 0
  · rw [hz] at AG
    by_cases hi : at' < 0 ∨ (es.length : Int) ≤ at'
    · exact rf_rng W q at' v lv _ es.length _ w hi ⟨a, cap, rfl⟩ (fun w' k => (AG w' k).mono (by rintro e w'' ⟨a, c, rfl, -, hk⟩; exact ⟨a, c, rfl, hk⟩))
    · obtain ⟨k, rfl⟩ : ∃ k : Nat, at' = (k : Int) := ⟨at'.toNat, by omega⟩
      have hk : k < es.length := by omega
      have h40 := (edgE_0 (ageQ_0 hz).2.2.2).1
      obtain ⟨hz', hj⟩ := age_less hz hk
      have hbl : (ageO W hs q (lessOf es k) fs).length = es.length := by rw [age_len hz', less_len' hk]; omega
      have AL := fun w' u (g : Kpt w w') (hu : Reads w' u (lessOf es k)) => ages_any W q v lv u hs (lessOf es k) fs w' (hr.kpt g) hf (hF.kpt g) hu
      rw [hz'] at AL
      obtain ⟨b, off, rfl⟩ : ∃ b off, a = some ⟨b, off, none⟩ := by
        rcases hE.cell with ⟨e, _⟩ | ⟨_, b', off', cap', e, hc⟩
        · rw [e] at hk; simp at hk
        · injection e with e1 _ _
          exact ⟨b', off', e1⟩
      by_cases hcap : cap = k + 1
      · exact rf_end W q k b off cap v lv hs es _ _ w hk h40 hn (by rw [← hcap]; exact hE) (by omega) hcap (by rw [← hcap]; exact AG) AL hbl (age_len hz) (age_bd hz) hj |> fun h => by rw [← hcap] at h; exact h
      · exact rf_mid W q k b off cap v lv hs es _ _ w hk h40 hn hE hcap AG AL hbl (age_len hz) (age_bd hz) hj
  · have e0 : ageO W hs q es fs = [] := if_neg hz
    rw [e0] at AG
    exact rf_err W q _ at' v lv _ es.length w (bne_iff_ne.2 hz) ⟨a, cap, rfl⟩ (fun w' k => (AG w' k).mono (by rintro e w'' ⟨a, c, rfl, -, hk⟩; exact ⟨a, c, rfl, hk⟩))

end Go.Proofs.Ytmcbebjipiojoaa
