/-
  MarginNeed: the law answers true.
-/
import Derived.Test.YtlojdehjbcombaaMarJ
namespace Go.Proofs.Ytlojdehjbcombaa
open Go.RowKit
set_option linter.unusedVariables false

/-- what is asked for by the first k fails, each by itself -/
def nsL (ps : List Int) (party rate : Int) (fs : List (List Int)) (k : Nat) : Int := ((fs.take k).map fun l => ow1 ps party l * rate / 10000).sum
theorem nsL_s {ps : List Int} {party rate : Int} {fs : List (List Int)} {k : Nat} (hk : k < fs.length) : nsL ps party rate fs (k + 1) = nsL ps party rate fs k + ow1 ps party (fs.getD k []) * rate / 10000 := by
  unfold nsL
  rw [List.take_succ_eq_append_getElem hk, List.map_append, List.sum_append, List.getD_eq_getElem?_getD, List.getElem?_eq_getElem hk]
  simp
theorem ow_part {ps : List Int} (hp : PrsOk ps) {party rate : Int} {l : List Int} (h : failEL l = 0) (hr : 0 ≤ rate ∧ rate ≤ 10000) : 0 ≤ ow1 ps party l * rate / 10000 ∧ ow1 ps party l * rate / 10000 ≤ 118059162071741130 := by
  have b := ow1_bd hp (party := party) h
  have a : 0 ≤ ow1 ps party l * rate := Int.mul_nonneg b.1 hr.1
  have c : ow1 ps party l * rate ≤ 118059162071741130 * 10000 := Int.mul_le_mul b.2 hr.2 hr.1 (by omega)
  omega
theorem nsL_bd {ps : List Int} (hp : PrsOk ps) {party rate : Int} {fs : List (List Int)} (h : ∀ l ∈ fs, failEL l = 0) (hr : 0 ≤ rate ∧ rate ≤ 10000) : ∀ k, k ≤ fs.length → 0 ≤ nsL ps party rate fs k ∧ nsL ps party rate fs k ≤ 118059162071741130 * (k : Int) ∧ nsL ps party rate fs k ≤ owS ps party (fs.take k) * rate / 10000 ∧ owS ps party (fs.take k) * rate / 10000 ≤ nsL ps party rate fs k + k
  | 0, _ => by
    have e : owS ps party (fs.take 0) = 0 := rfl
    rw [e, Int.zero_mul]
    exact ⟨Int.le_refl _, Int.le_refl _, Int.le_refl _, Int.le_refl _⟩
  | k + 1, hk => by
    obtain ⟨a, b, c, d⟩ := nsL_bd hp (party := party) h hr k (by omega)
    have q := ow_part hp (party := party) (h _ (getF_mem (show k < fs.length by omega))) hr
    rw [nsL_s (by omega), owS_take (by omega), Int.add_mul]
    generalize owS ps party (fs.take k) * rate = x at *
    generalize ow1 ps party (fs.getD k []) * rate = y at *
    omega
theorem nd_one {ps : List Int} {party rate : Int} {fs : List (List Int)} (h : ndE fs ps party rate = 0) {l : List Int} (hl : l ∈ fs) : ndE [l] ps party rate = 0 ∧ ndV [l] ps party rate = ow1 ps party l * rate / 10000 := by
  obtain ⟨h1, h2, h3, h4⟩ := ndE_0 h
  have hf := (checks_0 h1).2 l hl
  have hp := prsOk h2
  have b := ow1_bd hp (party := party) hf
  have e : owS ps party [l] = ow1 ps party l := by simp [owS]
  have c : amtB (owS ps party [l]) = true := by rw [e]; exact amt_mk (by omega) (by omega)
  have g : rteB party rate = true := decide_eq_true h3
  have E : ndE [l] ps party rate = 0 := by
    show orE _ _ = 0
    rw [orE_r (checks_one hf), orE_r h2, if_pos g, (am_ok c).2]
  refine ⟨E, ?_⟩
  unfold ndV
  rw [if_pos E, e]
theorem nd_is {ps : List Int} {party rate : Int} {fs : List (List Int)} (h : ndE fs ps party rate = 0) : ndV fs ps party rate = owS ps party fs * rate / 10000 := if_pos h
theorem nd_more {ps : List Int} {party rate more : Int} {fs : List (List Int)} (h : ndE fs ps party rate = 0) (g : ndE fs ps party more = 0) (hm : rate ≤ more) : ndV fs ps party rate ≤ ndV fs ps party more := by
  rw [nd_is h, nd_is g]
  obtain ⟨h1, h2, h3, h4⟩ := ndE_0 h
  have b := owS_bd (prsOk h2) (party := party) (checks_0 h1).2
  have : owS ps party fs * rate ≤ owS ps party fs * more := Int.mul_le_mul_of_nonneg_left hm b.1
  omega
def NdIs (v u : Value) (party rate : Int) (w : World) (V E : Int) : Prop := ∀ w', Kpt w w' → Calls Try.prog 35 #[v, u, .int .i64 party, .int .i64 rate] w' fun e w'' => e = .returned (.tuple #[.int .i64 V, .int .i64 E]) ∧ Kpt w' w''
theorem NdIs.run {v u : Value} {party rate : Int} {w : World} {V E : Int} (h : NdIs v u party rate w V E) (w' : World) (k : Kpt w w') : Calls Try.prog 35 #[v, u, .int .i64 party, .int .i64 rate] w' fun e w'' => e = .returned (.tuple #[.int .i64 V, .int .i64 E]) ∧ Kpt w' w'' := h w' k

theorem mneed_no (v u : Value) (party rate more : Int) (w : World) (E : Int) (hE : E ≠ 0) (N : NdIs v u party rate w 0 E) :
    Calls Try.prog 11 #[v, u, .int .i64 party, .int .i64 rate, .int .i64 more] w fun e w' => e = .returned (.bool true) ∧ Kpt w w' := by
  have z : (E != 0) = true := bne_iff_ne.2 hE
  have HN := Lib.hid N
  have K0 : Hid (Kpt w w) := Kpt.refl w
  clear N hE
  go_enter Try.func11, Try.ntmps11
  go_wp2_with (first
    | (go_at_call 35; (with_reducible refine (HN.out.run _ K0.out).mono ?_); rintro e w1 ⟨rfl, k1⟩; have K1 := Lib.hid k1; clear k1)
    | (go_at_call 43; (with_reducible refine (marginBegun _).mono ?_); rintro e w2 ⟨rfl, k1⟩; have K2 := Lib.hid (ktr K1.out k1); clear k1))
  go_ret
  exact ⟨rfl, K2.out⟩

set_option maxRecDepth 100000 in
set_option maxHeartbeats 4000000 in
theorem mneed_a (u : Value) (fs : List (List Int)) (ps : List Int) (party rate more : Int) (w : World) (M F : Int) (cap : Nat) (a : Option Addr) (hl : ReadsF w (.slice a fs.length cap) fs) (hcap : fs.length ≤ cap ∧ cap ≤ maxLen) (h : ndE fs ps party rate = 0)
    (q1 : (F == 0) = false)
    (N : NdIs (.slice a fs.length cap) u party rate w (ndV fs ps party rate) 0) (N2 : NdIs (.slice a fs.length cap) u party more w M F) (N3 : ∀ v' l, l ∈ fs → ReadsF w v' [l] → NdIs v' u party rate w (ow1 ps party l * rate / 10000) 0) :
    Calls Try.prog 11 #[.slice a fs.length cap, u, .int .i64 party, .int .i64 rate, .int .i64 more] w fun e w' => e = .returned (.bool true) ∧ Kpt w w' := by
  obtain ⟨h1, h2, h3, h4⟩ := ndE_0 h
  obtain ⟨h60, hs⟩ := checks_0 h1
  have hp := prsOk h2
  have nb := nsL_bd hp (party := party) hs ⟨h3.2.2.1, h3.2.2.2⟩ fs.length (Nat.le_refl _)
  rw [List.take_of_length_le (Nat.le_refl _), ← nd_is h] at nb
  have nbk := fun k hk => nsL_bd hp (party := party) hs ⟨h3.2.2.1, h3.2.2.2⟩ k hk
  have HB := Lib.hid (fun k (hk : k ≤ fs.length) => (⟨(nbk k hk).1, (nbk k hk).2.1⟩ : 0 ≤ nsL ps party rate fs k ∧ nsL ps party rate fs k ≤ 118059162071741130 * (k : Int)))
  have HQ := Lib.hid (fun k (hk : k < fs.length) => ow_part hp (party := party) (hs _ (getF_mem hk)) ⟨h3.2.2.1, h3.2.2.2⟩)
  have H0 := Lib.hid (fun k (hk : k < fs.length) (e : ¬ (fs.getD k []).getD 1 0 = party) => (by unfold ow1; rw [if_neg e, Int.zero_mul]; rfl : ow1 ps party (fs.getD k []) * rate / 10000 = 0))
  have HS := Lib.hid (fun k (hk : k < fs.length) => nsL_s (ps := ps) (party := party) (rate := rate) hk)
  have HN := Lib.hid N
  have HN2 := Lib.hid N2
  have HM := Lib.hid (fun k (hk : k < fs.length) => (getF_mem hk : fs.getD k [] ∈ fs))
  have HN3 := Lib.hid N3
  obtain ⟨a', cap', hx, hm, hbd, hc⟩ := hl
  injection hx with e1 e2 e3
  subst e1; subst e3
  have HBD := Lib.hid (fun k (hk : k < fs.length) => hbd _ (getF_mem hk))
  have HC := Lib.hid hc
  have K0 : Hid (Kpt w w) := Kpt.refl w
  generalize ndV fs ps party rate = V at *
  obtain ⟨n, hn⟩ : ∃ n, n = fs.length := ⟨_, rfl⟩
  rw [← hn] at HB HQ H0 HS HM HBD HC HN HN2 nb h60 hcap ⊢
  obtain ⟨hc1, hc2⟩ := hcap
  unfold maxLen at hc2
  have N60 := Lib.hid h60
  have b1 := nb.2.2.1
  have b2 := nb.2.2.2
  have b0 := nb.1
  have bV : nsL ps party rate fs n + (n : Int) ≤ 9223372036854775807 := by omega
  have wV : IntKind.i64.wrap (nsL ps party rate fs n + (n : Int)) = nsL ps party rate fs n + (n : Int) := IntWalk.i64_in _ (by omega)
  have z1 : decide (nsL ps party rate fs n ≤ V) = true := decide_eq_true b1
  have z2 : decide (V ≤ nsL ps party rate fs n + (n : Int)) = true := decide_eq_true b2
  have Z1 := Lib.hid z1
  have Z2 := Lib.hid z2
  have WV := Lib.hid wV
  have B1 := Lib.hid b1
  have B2 := Lib.hid b2
  clear N N2 N3 hc hbd hn h h1 h2 h3 h4 hs hp nb nbk z1 z2 wV b1 b2 b0 bV h60 hm
  go_enter Try.func11, Try.ntmps11
  go_wp2_with (first
    | (go_at_call 35; (with_reducible refine (HN.out.run _ K0.out).mono ?_); rintro e w1 ⟨rfl, k1⟩; have K1 := Lib.hid k1; clear k1 HN)
    | (go_at_call 35; (with_reducible refine (HN2.out.run _ K2.out).mono ?_); rintro e w3 ⟨rfl, k1⟩; have K3 := Lib.hid (ktr K2.out k1); clear k1 HN2)
    | (go_at_call 43; (with_reducible refine (marginBegun _).mono ?_); rintro e w2 ⟨rfl, k1⟩; have K2 := Lib.hid (ktr K1.out k1); clear k1))
  go_loopw [15, 16] (fun ss ii wr => ∃ k : Nat, k ≤ n ∧ ii = .int .i64 (k : Int) ∧ ss = .int .i64 (nsL ps party rate fs k) ∧ Hid (Kpt w wr)) (fun _ ii _ => n - (intOf ii).toNat)
  case atStart => exact ⟨0, Nat.zero_le _, rfl, rfl, K3.out⟩
  case round =>
    obtain ⟨k, hk, rfl, rfl, HK⟩ := hrel
    by_cases hlt : k < n
    · obtain ⟨g, off, rfl, hfl⟩ := HC.out k hlt
      have RD : Hid (ReadsF w (.slice (some ⟨g, off + k * 10, none⟩) 1 (cap - k)) [fs.getD k []]) := ⟨_, _, rfl, by unfold maxLen; simp, fun l hl => by rw [List.mem_singleton.1 hl]; exact HBD.out k hlt, fun j hj => ⟨g, off + k * 10, rfl, by
        obtain rfl : j = 0 := by simp at hj; exact hj
        simpa using hfl⟩⟩
      have N3 := Lib.hid (HN3.out _ _ (HM.out k hlt) RD.out)
      have hq := HQ.out k hlt
      have hb := HB.out k hk
      have h0 := H0.out k hlt
      have hs := HS.out k hlt
      have c1 : w.cell? ⟨g, off + k * 10 + 1, none⟩ = _ := hfl 1 (by omega)
      have n60 := N60.out
      clear hfl RD
      generalize (fs.getD k []).getD 1 0 = f at *
      generalize ow1 ps party (fs.getD k []) * rate / 10000 = q at *
      have HS2 := Lib.hid hs
      have C1 := Lib.hid c1
      have ws : IntKind.i64.wrap (nsL ps party rate fs k + q) = nsL ps party rate fs k + q := IntWalk.i64_in _ (by omega)
      have x1 : ¬ q < 0 := by omega
      have x2 : decide (q < 0) = false := decide_eq_false x1
      have x3 : 0 ≤ q := hq.1
      have x4 : (k : Int) + 1 ≤ (cap : Int) := by omega
      have x5 : k ≤ cap := by omega
      have x6 : (k : Int) < (n : Int) := by omega
      clear hs c1 hb
      generalize nsL ps party rate fs k = T at *
      by_cases hf : f = party
      · have yf : (f != party) = false := by simpa using hf
        clear h0 hf
        go_wp2_with (first
          | (go_at_call 35; (with_reducible refine (N3.out.run _ HK.out).mono ?_); rintro e w5 ⟨rfl, k1⟩; have K5 := Lib.hid (ktr HK.out k1); have c1 : w5.cell? ⟨g, off + k * 10 + 1, none⟩ = some (.int .i64 f) := K5.out.cell C1.out; clear k1))
        go_roundw
        case rel => exact ⟨k + 1, by omega, by go_num, congrArg (Value.int .i64) HS2.out.symm, K5.out⟩
        case measure => simp [intOf]; omega
      · have yf : (f != party) = true := bne_iff_ne.2 hf
        have yq : (q != 0) = false := by simpa using h0 hf
        clear hf h0
        go_wp2_with (first
          | (go_at_call 35; (with_reducible refine (N3.out.run _ HK.out).mono ?_); rintro e w5 ⟨rfl, k1⟩; have K5 := Lib.hid (ktr HK.out k1); have c1 : w5.cell? ⟨g, off + k * 10 + 1, none⟩ = some (.int .i64 f) := K5.out.cell C1.out; clear k1))
        go_roundw
        case rel => exact ⟨k + 1, by omega, by go_num, congrArg (Value.int .i64) HS2.out.symm, K5.out⟩
        case measure => simp [intOf]; omega
    · obtain rfl : k = n := by omega
      have z1 := Z1.out
      have z2 := Z2.out
      have wV := WV.out
      go_wp2
      go_ret
      exact ⟨rfl, HK.out⟩

set_option maxRecDepth 100000 in
set_option maxHeartbeats 4000000 in
theorem mneed_b (u : Value) (fs : List (List Int)) (ps : List Int) (party rate more : Int) (w : World) (M F : Int) (cap : Nat) (a : Option Addr) (hl : ReadsF w (.slice a fs.length cap) fs) (hcap : fs.length ≤ cap ∧ cap ≤ maxLen) (h : ndE fs ps party rate = 0)
    (q1 : (F == 0) = true) (q2 : decide (rate ≤ more) = false)
    (N : NdIs (.slice a fs.length cap) u party rate w (ndV fs ps party rate) 0) (N2 : NdIs (.slice a fs.length cap) u party more w M F) (N3 : ∀ v' l, l ∈ fs → ReadsF w v' [l] → NdIs v' u party rate w (ow1 ps party l * rate / 10000) 0) :
    Calls Try.prog 11 #[.slice a fs.length cap, u, .int .i64 party, .int .i64 rate, .int .i64 more] w fun e w' => e = .returned (.bool true) ∧ Kpt w w' := by
  obtain ⟨h1, h2, h3, h4⟩ := ndE_0 h
  obtain ⟨h60, hs⟩ := checks_0 h1
  have hp := prsOk h2
  have nb := nsL_bd hp (party := party) hs ⟨h3.2.2.1, h3.2.2.2⟩ fs.length (Nat.le_refl _)
  rw [List.take_of_length_le (Nat.le_refl _), ← nd_is h] at nb
  have nbk := fun k hk => nsL_bd hp (party := party) hs ⟨h3.2.2.1, h3.2.2.2⟩ k hk
  have HB := Lib.hid (fun k (hk : k ≤ fs.length) => (⟨(nbk k hk).1, (nbk k hk).2.1⟩ : 0 ≤ nsL ps party rate fs k ∧ nsL ps party rate fs k ≤ 118059162071741130 * (k : Int)))
  have HQ := Lib.hid (fun k (hk : k < fs.length) => ow_part hp (party := party) (hs _ (getF_mem hk)) ⟨h3.2.2.1, h3.2.2.2⟩)
  have H0 := Lib.hid (fun k (hk : k < fs.length) (e : ¬ (fs.getD k []).getD 1 0 = party) => (by unfold ow1; rw [if_neg e, Int.zero_mul]; rfl : ow1 ps party (fs.getD k []) * rate / 10000 = 0))
  have HS := Lib.hid (fun k (hk : k < fs.length) => nsL_s (ps := ps) (party := party) (rate := rate) hk)
  have HN := Lib.hid N
  have HN2 := Lib.hid N2
  have HM := Lib.hid (fun k (hk : k < fs.length) => (getF_mem hk : fs.getD k [] ∈ fs))
  have HN3 := Lib.hid N3
  obtain ⟨a', cap', hx, hm, hbd, hc⟩ := hl
  injection hx with e1 e2 e3
  subst e1; subst e3
  have HBD := Lib.hid (fun k (hk : k < fs.length) => hbd _ (getF_mem hk))
  have HC := Lib.hid hc
  have K0 : Hid (Kpt w w) := Kpt.refl w
  generalize ndV fs ps party rate = V at *
  obtain ⟨n, hn⟩ : ∃ n, n = fs.length := ⟨_, rfl⟩
  rw [← hn] at HB HQ H0 HS HM HBD HC HN HN2 nb h60 hcap ⊢
  obtain ⟨hc1, hc2⟩ := hcap
  unfold maxLen at hc2
  have N60 := Lib.hid h60
  have b1 := nb.2.2.1
  have b2 := nb.2.2.2
  have b0 := nb.1
  have bV : nsL ps party rate fs n + (n : Int) ≤ 9223372036854775807 := by omega
  have wV : IntKind.i64.wrap (nsL ps party rate fs n + (n : Int)) = nsL ps party rate fs n + (n : Int) := IntWalk.i64_in _ (by omega)
  have z1 : decide (nsL ps party rate fs n ≤ V) = true := decide_eq_true b1
  have z2 : decide (V ≤ nsL ps party rate fs n + (n : Int)) = true := decide_eq_true b2
  have Z1 := Lib.hid z1
  have Z2 := Lib.hid z2
  have WV := Lib.hid wV
  have B1 := Lib.hid b1
  have B2 := Lib.hid b2
  clear N N2 N3 hc hbd hn h h1 h2 h3 h4 hs hp nb nbk z1 z2 wV b1 b2 b0 bV h60 hm
  go_enter Try.func11, Try.ntmps11
  go_wp2_with (first
    | (go_at_call 35; (with_reducible refine (HN.out.run _ K0.out).mono ?_); rintro e w1 ⟨rfl, k1⟩; have K1 := Lib.hid k1; clear k1 HN)
    | (go_at_call 35; (with_reducible refine (HN2.out.run _ K2.out).mono ?_); rintro e w3 ⟨rfl, k1⟩; have K3 := Lib.hid (ktr K2.out k1); clear k1 HN2)
    | (go_at_call 43; (with_reducible refine (marginBegun _).mono ?_); rintro e w2 ⟨rfl, k1⟩; have K2 := Lib.hid (ktr K1.out k1); clear k1))
  go_loopw [15, 16] (fun ss ii wr => ∃ k : Nat, k ≤ n ∧ ii = .int .i64 (k : Int) ∧ ss = .int .i64 (nsL ps party rate fs k) ∧ Hid (Kpt w wr)) (fun _ ii _ => n - (intOf ii).toNat)
  case atStart => exact ⟨0, Nat.zero_le _, rfl, rfl, K3.out⟩
  case round =>
    obtain ⟨k, hk, rfl, rfl, HK⟩ := hrel
    by_cases hlt : k < n
    · obtain ⟨g, off, rfl, hfl⟩ := HC.out k hlt
      have RD : Hid (ReadsF w (.slice (some ⟨g, off + k * 10, none⟩) 1 (cap - k)) [fs.getD k []]) := ⟨_, _, rfl, by unfold maxLen; simp, fun l hl => by rw [List.mem_singleton.1 hl]; exact HBD.out k hlt, fun j hj => ⟨g, off + k * 10, rfl, by
        obtain rfl : j = 0 := by simp at hj; exact hj
        simpa using hfl⟩⟩
      have N3 := Lib.hid (HN3.out _ _ (HM.out k hlt) RD.out)
      have hq := HQ.out k hlt
      have hb := HB.out k hk
      have h0 := H0.out k hlt
      have hs := HS.out k hlt
      have c1 : w.cell? ⟨g, off + k * 10 + 1, none⟩ = _ := hfl 1 (by omega)
      have n60 := N60.out
      clear hfl RD
      generalize (fs.getD k []).getD 1 0 = f at *
      generalize ow1 ps party (fs.getD k []) * rate / 10000 = q at *
      have HS2 := Lib.hid hs
      have C1 := Lib.hid c1
      have ws : IntKind.i64.wrap (nsL ps party rate fs k + q) = nsL ps party rate fs k + q := IntWalk.i64_in _ (by omega)
      have x1 : ¬ q < 0 := by omega
      have x2 : decide (q < 0) = false := decide_eq_false x1
      have x3 : 0 ≤ q := hq.1
      have x4 : (k : Int) + 1 ≤ (cap : Int) := by omega
      have x5 : k ≤ cap := by omega
      have x6 : (k : Int) < (n : Int) := by omega
      clear hs c1 hb
      generalize nsL ps party rate fs k = T at *
      by_cases hf : f = party
      · have yf : (f != party) = false := by simpa using hf
        clear h0 hf
        go_wp2_with (first
          | (go_at_call 35; (with_reducible refine (N3.out.run _ HK.out).mono ?_); rintro e w5 ⟨rfl, k1⟩; have K5 := Lib.hid (ktr HK.out k1); have c1 : w5.cell? ⟨g, off + k * 10 + 1, none⟩ = some (.int .i64 f) := K5.out.cell C1.out; clear k1))
        go_roundw
        case rel => exact ⟨k + 1, by omega, by go_num, congrArg (Value.int .i64) HS2.out.symm, K5.out⟩
        case measure => simp [intOf]; omega
      · have yf : (f != party) = true := bne_iff_ne.2 hf
        have yq : (q != 0) = false := by simpa using h0 hf
        clear hf h0
        go_wp2_with (first
          | (go_at_call 35; (with_reducible refine (N3.out.run _ HK.out).mono ?_); rintro e w5 ⟨rfl, k1⟩; have K5 := Lib.hid (ktr HK.out k1); have c1 : w5.cell? ⟨g, off + k * 10 + 1, none⟩ = some (.int .i64 f) := K5.out.cell C1.out; clear k1))
        go_roundw
        case rel => exact ⟨k + 1, by omega, by go_num, congrArg (Value.int .i64) HS2.out.symm, K5.out⟩
        case measure => simp [intOf]; omega
    · obtain rfl : k = n := by omega
      have z1 := Z1.out
      have z2 := Z2.out
      have wV := WV.out
      go_wp2
      go_ret
      exact ⟨rfl, HK.out⟩

set_option maxRecDepth 100000 in
set_option maxHeartbeats 4000000 in
theorem mneed_c (u : Value) (fs : List (List Int)) (ps : List Int) (party rate more : Int) (w : World) (M F : Int) (cap : Nat) (a : Option Addr) (hl : ReadsF w (.slice a fs.length cap) fs) (hcap : fs.length ≤ cap ∧ cap ≤ maxLen) (h : ndE fs ps party rate = 0)
    (q1 : (F == 0) = true) (q2 : decide (rate ≤ more) = true) (q3 : decide (M < ndV fs ps party rate) = false)
    (N : NdIs (.slice a fs.length cap) u party rate w (ndV fs ps party rate) 0) (N2 : NdIs (.slice a fs.length cap) u party more w M F) (N3 : ∀ v' l, l ∈ fs → ReadsF w v' [l] → NdIs v' u party rate w (ow1 ps party l * rate / 10000) 0) :
    Calls Try.prog 11 #[.slice a fs.length cap, u, .int .i64 party, .int .i64 rate, .int .i64 more] w fun e w' => e = .returned (.bool true) ∧ Kpt w w' := by
  obtain ⟨h1, h2, h3, h4⟩ := ndE_0 h
  obtain ⟨h60, hs⟩ := checks_0 h1
  have hp := prsOk h2
  have nb := nsL_bd hp (party := party) hs ⟨h3.2.2.1, h3.2.2.2⟩ fs.length (Nat.le_refl _)
  rw [List.take_of_length_le (Nat.le_refl _), ← nd_is h] at nb
  have nbk := fun k hk => nsL_bd hp (party := party) hs ⟨h3.2.2.1, h3.2.2.2⟩ k hk
  have HB := Lib.hid (fun k (hk : k ≤ fs.length) => (⟨(nbk k hk).1, (nbk k hk).2.1⟩ : 0 ≤ nsL ps party rate fs k ∧ nsL ps party rate fs k ≤ 118059162071741130 * (k : Int)))
  have HQ := Lib.hid (fun k (hk : k < fs.length) => ow_part hp (party := party) (hs _ (getF_mem hk)) ⟨h3.2.2.1, h3.2.2.2⟩)
  have H0 := Lib.hid (fun k (hk : k < fs.length) (e : ¬ (fs.getD k []).getD 1 0 = party) => (by unfold ow1; rw [if_neg e, Int.zero_mul]; rfl : ow1 ps party (fs.getD k []) * rate / 10000 = 0))
  have HS := Lib.hid (fun k (hk : k < fs.length) => nsL_s (ps := ps) (party := party) (rate := rate) hk)
  have HN := Lib.hid N
  have HN2 := Lib.hid N2
  have HM := Lib.hid (fun k (hk : k < fs.length) => (getF_mem hk : fs.getD k [] ∈ fs))
  have HN3 := Lib.hid N3
  obtain ⟨a', cap', hx, hm, hbd, hc⟩ := hl
  injection hx with e1 e2 e3
  subst e1; subst e3
  have HBD := Lib.hid (fun k (hk : k < fs.length) => hbd _ (getF_mem hk))
  have HC := Lib.hid hc
  have K0 : Hid (Kpt w w) := Kpt.refl w
  generalize ndV fs ps party rate = V at *
  obtain ⟨n, hn⟩ : ∃ n, n = fs.length := ⟨_, rfl⟩
  rw [← hn] at HB HQ H0 HS HM HBD HC HN HN2 nb h60 hcap ⊢
  obtain ⟨hc1, hc2⟩ := hcap
  unfold maxLen at hc2
  have N60 := Lib.hid h60
  have b1 := nb.2.2.1
  have b2 := nb.2.2.2
  have b0 := nb.1
  have bV : nsL ps party rate fs n + (n : Int) ≤ 9223372036854775807 := by omega
  have wV : IntKind.i64.wrap (nsL ps party rate fs n + (n : Int)) = nsL ps party rate fs n + (n : Int) := IntWalk.i64_in _ (by omega)
  have z1 : decide (nsL ps party rate fs n ≤ V) = true := decide_eq_true b1
  have z2 : decide (V ≤ nsL ps party rate fs n + (n : Int)) = true := decide_eq_true b2
  have Z1 := Lib.hid z1
  have Z2 := Lib.hid z2
  have WV := Lib.hid wV
  have B1 := Lib.hid b1
  have B2 := Lib.hid b2
  clear N N2 N3 hc hbd hn h h1 h2 h3 h4 hs hp nb nbk z1 z2 wV b1 b2 b0 bV h60 hm
  go_enter Try.func11, Try.ntmps11
  go_wp2_with (first
    | (go_at_call 35; (with_reducible refine (HN.out.run _ K0.out).mono ?_); rintro e w1 ⟨rfl, k1⟩; have K1 := Lib.hid k1; clear k1 HN)
    | (go_at_call 35; (with_reducible refine (HN2.out.run _ K2.out).mono ?_); rintro e w3 ⟨rfl, k1⟩; have K3 := Lib.hid (ktr K2.out k1); clear k1 HN2)
    | (go_at_call 43; (with_reducible refine (marginBegun _).mono ?_); rintro e w2 ⟨rfl, k1⟩; have K2 := Lib.hid (ktr K1.out k1); clear k1))
  go_loopw [15, 16] (fun ss ii wr => ∃ k : Nat, k ≤ n ∧ ii = .int .i64 (k : Int) ∧ ss = .int .i64 (nsL ps party rate fs k) ∧ Hid (Kpt w wr)) (fun _ ii _ => n - (intOf ii).toNat)
  case atStart => exact ⟨0, Nat.zero_le _, rfl, rfl, K3.out⟩
  case round =>
    obtain ⟨k, hk, rfl, rfl, HK⟩ := hrel
    by_cases hlt : k < n
    · obtain ⟨g, off, rfl, hfl⟩ := HC.out k hlt
      have RD : Hid (ReadsF w (.slice (some ⟨g, off + k * 10, none⟩) 1 (cap - k)) [fs.getD k []]) := ⟨_, _, rfl, by unfold maxLen; simp, fun l hl => by rw [List.mem_singleton.1 hl]; exact HBD.out k hlt, fun j hj => ⟨g, off + k * 10, rfl, by
        obtain rfl : j = 0 := by simp at hj; exact hj
        simpa using hfl⟩⟩
      have N3 := Lib.hid (HN3.out _ _ (HM.out k hlt) RD.out)
      have hq := HQ.out k hlt
      have hb := HB.out k hk
      have h0 := H0.out k hlt
      have hs := HS.out k hlt
      have c1 : w.cell? ⟨g, off + k * 10 + 1, none⟩ = _ := hfl 1 (by omega)
      have n60 := N60.out
      clear hfl RD
      generalize (fs.getD k []).getD 1 0 = f at *
      generalize ow1 ps party (fs.getD k []) * rate / 10000 = q at *
      have HS2 := Lib.hid hs
      have C1 := Lib.hid c1
      have ws : IntKind.i64.wrap (nsL ps party rate fs k + q) = nsL ps party rate fs k + q := IntWalk.i64_in _ (by omega)
      have x1 : ¬ q < 0 := by omega
      have x2 : decide (q < 0) = false := decide_eq_false x1
      have x3 : 0 ≤ q := hq.1
      have x4 : (k : Int) + 1 ≤ (cap : Int) := by omega
      have x5 : k ≤ cap := by omega
      have x6 : (k : Int) < (n : Int) := by omega
      clear hs c1 hb
      generalize nsL ps party rate fs k = T at *
      by_cases hf : f = party
      · have yf : (f != party) = false := by simpa using hf
        clear h0 hf
        go_wp2_with (first
          | (go_at_call 35; (with_reducible refine (N3.out.run _ HK.out).mono ?_); rintro e w5 ⟨rfl, k1⟩; have K5 := Lib.hid (ktr HK.out k1); have c1 : w5.cell? ⟨g, off + k * 10 + 1, none⟩ = some (.int .i64 f) := K5.out.cell C1.out; clear k1))
        go_roundw
        case rel => exact ⟨k + 1, by omega, by go_num, congrArg (Value.int .i64) HS2.out.symm, K5.out⟩
        case measure => simp [intOf]; omega
      · have yf : (f != party) = true := bne_iff_ne.2 hf
        have yq : (q != 0) = false := by simpa using h0 hf
        clear hf h0
        go_wp2_with (first
          | (go_at_call 35; (with_reducible refine (N3.out.run _ HK.out).mono ?_); rintro e w5 ⟨rfl, k1⟩; have K5 := Lib.hid (ktr HK.out k1); have c1 : w5.cell? ⟨g, off + k * 10 + 1, none⟩ = some (.int .i64 f) := K5.out.cell C1.out; clear k1))
        go_roundw
        case rel => exact ⟨k + 1, by omega, by go_num, congrArg (Value.int .i64) HS2.out.symm, K5.out⟩
        case measure => simp [intOf]; omega
    · obtain rfl : k = n := by omega
      have z1 := Z1.out
      have z2 := Z2.out
      have wV := WV.out
      go_wp2
      go_ret
      exact ⟨rfl, HK.out⟩

theorem mneed_plain (v u : Value) (party rate more : Int) (fs : List (List Int)) (ps : List Int) (w : World) (hl : ReadsF w v fs) (hcap : ∃ a n cap, v = .slice a n cap ∧ n ≤ cap ∧ cap ≤ maxLen) (hu : Reads w u ps) (_ : ∃ a n cap, u = .slice a n cap ∧ n ≤ cap ∧ cap ≤ maxLen) :
    Calls Try.prog 11 #[v, u, .int .i64 party, .int .i64 rate, .int .i64 more] w fun e w' => e = .returned (.bool true) ∧ Kpt w w' := by
  have N : ∀ r, NdIs v u party r w (ndV fs ps party r) (ndE fs ps party r) := fun r w' k => need_any v u fs ps party r w' (hl.kpt k) (hu.kpt k)
  by_cases h : ndE fs ps party rate = 0
  · obtain ⟨a, n, cap, rfl, hc⟩ := hcap
    obtain rfl : n = fs.length := by obtain ⟨a', cap', e, -⟩ := hl; injection e
    have N1 := N rate
    rw [h] at N1
    have N3 : ∀ v' l, l ∈ fs → ReadsF w v' [l] → NdIs v' u party rate w (ow1 ps party l * rate / 10000) 0 := fun v' l hm r w' k => by
      have := need_any v' u [l] ps party rate w' (r.kpt k) (hu.kpt k)
      rwa [(nd_one h hm).1, (nd_one h hm).2] at this
    by_cases hf : ndE fs ps party more = 0
    · have q1 : (ndE fs ps party more == 0) = true := beq_iff_eq.2 hf
      by_cases hr : rate ≤ more
      · have := nd_more h hf hr
        exact mneed_c u fs ps party rate more w _ _ cap a hl hc h q1 (decide_eq_true hr) (decide_eq_false (by omega)) N1 (N more) N3
      · exact mneed_b u fs ps party rate more w _ _ cap a hl hc h q1 (decide_eq_false hr) N1 (N more) N3
    · exact mneed_a u fs ps party rate more w _ _ cap a hl hc h (beq_eq_false_iff_ne.2 hf) N1 (N more) N3
  · have N1 := N rate
    rw [show ndV fs ps party rate = 0 from if_neg h] at N1
    exact mneed_no v u party rate more w _ h N1

end Go.Proofs.Ytlojdehjbcombaa
