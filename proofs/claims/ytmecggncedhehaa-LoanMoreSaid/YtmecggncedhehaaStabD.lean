/-
  What symMergeCmpFunc of package slices does where both sides have two elements or more, and the second one begins ahead of the middle, or there.
-/
import Derived.Test.YtmecggncedhehaaStabM
namespace Go.Proofs.Ytmecggncedhehaa
open Go.RowKit
set_option linter.unusedVariables false

set_option maxRecDepth 100000 in
set_option maxHeartbeats 16000000 in
theorem sm_midB (fn : Nat) (cb : Array Value) (cf : Int → Int → Int) (lx : Int → Int → Prop) (N blk cap k : Nat) (K : Keyed N cf lx) (eg : ∀ args w, (callFunc fn args).run Try.prog w = .ok (.enter fn args) w) (IH : SmOk fn cb cf lx N blk cap k)
    (A U V B : List Int) (a m b : Nat) (w : World) (hg : SmPre cf lx N blk A U V B a m b w) (hu : 1 < U.length) (hv : 1 < V.length) (hk : U.length + V.length ≤ k + 1) (hc : CmpAt fn cb cf N blk w) (hgt : ¬ (a + b) / 2 < m) :
    Calls Try.prog 149 #[.slice (some ⟨blk, 0, none⟩) (A ++ U ++ V ++ B).length cap, .int .i64 a, .int .i64 m, .int .i64 b, .func (.func fn) #[] cb] w fun e w' => e = .returned (.tuple #[]) ∧ Mg lx w blk A (U ++ V) B w' := by
  obtain ⟨hr, ha, hm, hb, hU, hV, hlt, hub, hvb, hl⟩ := hg
  obtain ⟨md, hmd⟩ : ∃ md, md = (a + b) / 2 := ⟨_, rfl⟩
  rw [← hmd] at hgt
  obtain ⟨n, hn⟩ : ∃ n, n = md + m := ⟨_, rfl⟩
  obtain ⟨p, hp⟩ : ∃ p, p + 1 = n := ⟨n - 1, by omega⟩
  obtain ⟨s0, hs0⟩ : ∃ s0, s0 = a := ⟨_, rfl⟩
  obtain ⟨r0, hr0⟩ : ∃ r0, r0 = m := ⟨_, rfl⟩
  have hS0 : s0 = a ∨ md + m = b + s0 := .inl hs0
  have hR0 : r0 = m ∨ r0 = md := .inl hr0
  have dl : (A ++ U ++ V ++ B).length = b + B.length := by simp; omega
  have HMU : Hid (∀ c, a ≤ c → c < m → (A ++ U ++ V ++ B).getD c 0 ∈ U) := fun c h0 h1 => by
    rw [List.append_assoc (A ++ U)]; exact mem_mid ha h0 (by omega)
  have HMV : Hid (∀ c, m ≤ c → c < b → (A ++ U ++ V ++ B).getD c 0 ∈ V) := fun c h0 h1 => mem_mid2 (by omega) h0 (by omega)
  have SPL : Hid (∀ s, a ≤ s → s ≤ m → s ≤ md → md + m ≤ b + s → (s = a ∨ md + m = b + s ∨ lx ((A ++ U ++ V ++ B).getD (s - 1) 0) ((A ++ U ++ V ++ B).getD (md + m - s) 0)) → (s = m ∨ s = md ∨ lx ((A ++ U ++ V ++ B).getD (md + m - s - 1) 0) ((A ++ U ++ V ++ B).getD s 0)) →
      ∃ U1 U2 V1 V2, U = U1 ++ U2 ∧ V = V1 ++ V2 ∧ a + U1.length = s ∧ s + V1.length = md ∧ (∀ u ∈ U1, ∀ v ∈ V2, lx u v) ∧ (∀ v ∈ V1, ∀ u ∈ U2, lx v u)) := fun s h0 h1 h2 h3 e1 e2 =>
    sm_split K.tr ha hm hb hU hV h0 h1 h2 h3 e1 e2
  obtain ⟨G, hG⟩ : ∃ G, G = U ++ V := ⟨_, rfl⟩
  rw [← hG]
  have HG := Lib.hid hG
  clear hG
  have HC := Lib.hid hc
  have HK := Lib.hid K
  have HI := Lib.hid IH
  have HLT := Lib.hid hlt
  have HUB := Lib.hid hub
  have HVB := Lib.hid hvb
  have HU := Lib.hid hU
  have HV := Lib.hid hV
  have HA := Lib.hid ha
  have HB := Lib.hid hb
  have HM := Lib.hid hm
  have HL := Lib.hid hl
  have HN := Lib.hid hn
  have HP := Lib.hid hp
  have HD : Hid ((A ++ U ++ V ++ B).length = b + B.length) := dl
  obtain ⟨D, hD⟩ : ∃ D, D = A ++ U ++ V ++ B := ⟨_, rfl⟩
  rw [← hD] at hr hl HMU HMV SPL HD ⊢
  have HDD := Lib.hid hD
  have hbl : b ≤ D.length := by have := HD.out; omega
  have H0 := Lib.hid hr
  have x1 : ¬ (m : Int) - (a : Int) = 1 := by omega
  have x2 : ¬ (b : Int) - (m : Int) = 1 := by omega
  have x3 : ((m : Int) - (a : Int) == 1) = false := by simp; omega
  have x4 : ((b : Int) - (m : Int) == 1) = false := by simp; omega
  have g1 : ((a : Int) + (b : Int)) / 2 = (md : Int) := by omega
  have g2 : ¬ ((a : Int) + (b : Int)) / 2 < (m : Int) := by omega
  have G1 := Lib.hid g1
  have bd : a ≤ s0 ∧ s0 ≤ r0 ∧ r0 ≤ m ∧ r0 ≤ md ∧ n ≤ b + s0 ∧ md < b ∧ a < md ∧ a + 1 < m ∧ m + 1 < b := by omega
  have BD := Lib.hid bd
  have HS0 := Lib.hid hS0
  have HR0 := Lib.hid hR0
  have ZS : Hid ((md : Int) + (m : Int) = (n : Int)) := by unfold Hid; omega
  have ZP : Hid ((n : Int) - 1 = (p : Int)) := by unfold Hid; omega
  have Z0 : Hid ((a : Int) = (s0 : Int)) := by unfold Hid; omega
  have Z1 : Hid ((m : Int) = (r0 : Int)) := by unfold Hid; omega
  have KK := Lib.hid hk
  have o1 : a + 1 < m := bd.2.2.2.2.2.2.2.1
  have o2 : m + 1 < b := bd.2.2.2.2.2.2.2.2
  clear hr hc K IH hU hV hlt hub hvb ha hb hm dl hD hn hp hu hv hk g1 bd hS0 hR0 hmd hs0 hr0
  go_enter Try.func149, Try.ntmps149
  go_wp2
  rw [G1.out, ZS.out, ZP.out]
  go_loopw [20, 21] (fun s t wr => ∃ i r : Nat, s = .int .i64 i ∧ t = .int .i64 r ∧ s0 ≤ i ∧ i ≤ r ∧ r ≤ r0 ∧ Hid (SI w blk D wr) ∧ Hid (i = s0 ∨ lx (D.getD (i - 1) 0) (D.getD (md + m - i) 0)) ∧ Hid (r = r0 ∨ lx (D.getD (md + m - r - 1) 0) (D.getD r 0))) (fun s t _ => (intOf t).toNat - (intOf s).toNat)
  case atStart => exact ⟨s0, r0, by rw [Z0.out], by rw [Z1.out], Nat.le_refl _, BD.out.2.1, Nat.le_refl _, SI.refl H0.out, .inl rfl, .inl rfl⟩
  case round =>
    obtain ⟨i, r, rfl, rfl, hmi, hir, hrb, HS, E1, E2⟩ := hrel
    by_cases hlt : i < r
    · obtain ⟨c, hcd⟩ : ∃ c, c = (i + r) / 2 := ⟨_, rfl⟩
      have hb := BD.out
      have hn := HN.out
      have hp := HP.out
      obtain ⟨j, hj⟩ : ∃ j, j + c = p := ⟨p - c, by omega⟩
      have ea : (((i : Int) + (r : Int)) / 2).toNat = c := by omega
      have l1 : ((i : Int) + (r : Int)) / 2 < (D.length : Int) := by omega
      have z1 : (0 : Int) ≤ ((i : Int) + (r : Int)) / 2 := by omega
      have eb : ((p : Int) - ((i : Int) + (r : Int)) / 2).toNat = j := by omega
      have l2 : (p : Int) - ((i : Int) + (r : Int)) / 2 < (D.length : Int) := by omega
      have z2 : (0 : Int) ≤ (p : Int) - ((i : Int) + (r : Int)) / 2 := by omega
      have w2 : IntKind.i64.wrap ((p : Int) - ((i : Int) + (r : Int)) / 2) = (p : Int) - ((i : Int) + (r : Int)) / 2 := by rw [IntKind.wrap_i64]; omega
      have c1 := HS.out.row.cell (j := c) (by omega)
      have c2 := HS.out.row.cell (j := j) (by omega)
      have mu := HMU.out c (by omega) (by omega)
      have mv := HMV.out j (by omega) (by omega)
      have hx := HUB.out _ mu
      have hy := HVB.out _ mv
      have hxy := HLT.out _ mu _ mv
      obtain ⟨x, hxd⟩ : ∃ x, D.getD c 0 = x := ⟨_, rfl⟩
      obtain ⟨y, hyd⟩ : ∃ y, D.getD j 0 = y := ⟨_, rfl⟩
      rw [hxd] at c1 hx hxy
      rw [hyd] at c2 hy hxy
      have HX := Lib.hid hxd
      have HY := Lib.hid hyd
      have CQ := Lib.hid (HC.out.quiet HS.out.bel hy hx)
      have HC1 : Hid (((i : Int) + (r : Int)) / 2 = (c : Int)) := by unfold Hid; omega
      have HCB : Hid (i ≤ c ∧ c < r ∧ c ≤ p) := by unfold Hid; omega
      have J1 : Hid (md + m - (c + 1) = j) := by unfold Hid; omega
      have J2 : Hid (md + m - c - 1 = j) := by unfold Hid; omega
      clear hxd hyd hcd hb hn hp hj mu mv
      by_cases hcf : cf y x < 0
      · have E3 : Hid (lx y x) := HK.out.lt x y hx.1 hx.2 hy.1 hy.2 hxy hcf
        have hcd : decide (cf y x < 0) = true := decide_eq_true hcf
        clear hx hy hxy hcf
        go_wp2
        go_quiet (first | (go_at_fn fn; refine Calls.quiet_of (CQ.out _)))
        go_wp2
        go_roundw
        case rel => exact ⟨i, c, rfl, by rw [HC1.out], hmi, HCB.out.1, by have := HCB.out; omega, HS.out.drewN _, E1.out, .inr (by rw [J2.out, HX.out, HY.out]; exact E3.out)⟩
        case measure => have := HCB.out; simp [intOf]; omega
      · have E3 : Hid (lx x y) := HK.out.ge x y hx.1 hx.2 hy.1 hy.2 hxy hcf
        have hcd : decide (cf y x < 0) = false := decide_eq_false hcf
        clear hx hy hxy hcf
        go_wp2
        go_quiet (first | (go_at_fn fn; refine Calls.quiet_of (CQ.out _)))
        go_wp2
        go_roundw
        case rel => exact ⟨c + 1, r, by rw [HC1.out]; go_num, rfl, by have := HCB.out; omega, by have := HCB.out; omega, hrb, HS.out.drewN _, .inr (by rw [J1.out, Nat.add_sub_cancel, HX.out, HY.out]; exact E3.out), E2.out⟩
        case measure => have := HCB.out; simp [intOf]; omega
    · obtain rfl : r = i := by omega
      have hb := BD.out
      have hn := HN.out
      have F := SPL.out r (by omega) (by omega) (by omega) (by omega) (E1.out.elim (fun e => HS0.out.elim (fun e' => .inl (by omega)) (fun e' => .inr (.inl (by omega)))) (fun e => .inr (.inr e))) (E2.out.elim (fun e => HR0.out.elim (fun e' => .inl (by omega)) (fun e' => .inr (.inl (by omega)))) (fun e => .inr (.inr e)))
      obtain ⟨U1, U2, V1, V2, rfl, rfl, q1, q2, q3, q4⟩ := F
      have hm := HM.out
      have hbb := HB.out
      have ha := HA.out
      have hkk := KK.out
      have hd := HD.out
      simp only [List.length_append] at hm hbb hkk
      have qU := List.pairwise_append.1 HU.out
      have qV := List.pairwise_append.1 HV.out
      have mU1 : ∀ x ∈ U1, x ∈ U1 ++ U2 := fun x h => List.mem_append.2 (.inl h)
      have mU2 : ∀ x ∈ U2, x ∈ U1 ++ U2 := fun x h => List.mem_append.2 (.inr h)
      have mV1 : ∀ x ∈ V1, x ∈ V1 ++ V2 := fun x h => List.mem_append.2 (.inl h)
      have mV2 : ∀ x ∈ V2, x ∈ V1 ++ V2 := fun x h => List.mem_append.2 (.inr h)
      obtain ⟨en, hen⟩ : ∃ en, en = m + V1.length := ⟨_, rfl⟩
      have y1 : (n : Int) - (r : Int) = (en : Int) := by omega
      have Y1 := Lib.hid y1
      -- the rotation
      have FR : Hid (0 < U2.length → 0 < V1.length → Calls Try.prog 154 #[.slice (some ⟨blk, 0, none⟩) D.length cap, .int .i64 (r : Int), .int .i64 (m : Int), .int .i64 ((n : Int) - (r : Int)), .func (.func fn) #[] cb] wr fun e w' => e = .returned (.tuple #[]) ∧ SI w blk (A ++ (U1 ++ V1) ++ (U2 ++ V2) ++ B) w') := fun h1 h2 => by
        have e0 : (A ++ U1) ++ U2 ++ V1 ++ (V2 ++ B) = D := by rw [HDD.out]; simp
        have h := rot_run blk cap r m en (A ++ U1) U2 V1 (V2 ++ B) (.func (.func fn) #[] cb) wr (by rw [e0]; exact HS.out.row) (by simp; omega) (by omega) (by omega) h1 h2 (by rw [e0, HDD.out]; exact HL.out)
        rw [e0, ← y1] at h
        refine h.mono ?_
        rintro e w' ⟨rfl, s1⟩
        refine ⟨rfl, ?_⟩
        have := HS.out.tr s1
        simpa using this
      have FN : Hid (U2.length = 0 ∨ V1.length = 0 → SI w blk (A ++ (U1 ++ V1) ++ (U2 ++ V2) ++ B) wr) := fun h => by
        have := HS.out
        rw [HDD.out] at this
        rcases h with h | h <;> (rw [List.length_eq_zero_iff.1 h] at this ⊢; simpa using this)
      -- the first part
      have F1 : Hid (∀ W, 0 < U1.length → 0 < V1.length → SI w blk (A ++ (U1 ++ V1) ++ (U2 ++ V2) ++ B) W → Calls Try.prog 149 #[.slice (some ⟨blk, 0, none⟩) D.length cap, .int .i64 (a : Int), .int .i64 (r : Int), .int .i64 (md : Int), .func (.func fn) #[] cb] W fun e w' => e = .returned (.tuple #[]) ∧ ∃ M1, M1.Perm (U1 ++ V1) ∧ M1.Pairwise lx ∧ SI w blk (A ++ M1 ++ (U2 ++ V2) ++ B) w') := fun W h1 h2 hs => by
        have e0 : A ++ U1 ++ V1 ++ ((U2 ++ V2) ++ B) = A ++ (U1 ++ V1) ++ (U2 ++ V2) ++ B := by simp
        have el : (A ++ (U1 ++ V1) ++ (U2 ++ V2) ++ B).length = D.length := by rw [HDD.out]; simp; omega
        have hl' := HL.out
        rw [← HDD.out] at hl'
        have h := HI.out A U1 V1 ((U2 ++ V2) ++ B) a r md W ⟨by rw [e0]; exact hs.row, ha, q1, q2, qU.1, qV.1, fun u hu v hv => HLT.out u (mU1 u hu) v (mV1 v hv), fun x hx => HUB.out x (mU1 x hx), fun x hx => HVB.out x (mV1 x hx), by rw [e0, el]; exact hl'⟩ h1 h2 (by omega) (HC.out.on hs.bel)
        rw [e0, el] at h
        refine h.mono ?_
        rintro e w' ⟨rfl, M1, s1, s2, s3⟩
        refine ⟨rfl, M1, s2, s3, ?_⟩
        have := hs.tr s1
        simpa using this
      -- the second part
      have F2 : Hid (∀ W (M1 : List Int), 0 < U2.length → 0 < V2.length → M1.Perm (U1 ++ V1) → SI w blk (A ++ M1 ++ (U2 ++ V2) ++ B) W → Calls Try.prog 149 #[.slice (some ⟨blk, 0, none⟩) D.length cap, .int .i64 (md : Int), .int .i64 ((n : Int) - (r : Int)), .int .i64 (b : Int), .func (.func fn) #[] cb] W fun e w' => e = .returned (.tuple #[]) ∧ ∃ M2, M2.Perm (U2 ++ V2) ∧ M2.Pairwise lx ∧ SI w blk (A ++ M1 ++ M2 ++ B) w') := fun W M1 h1 h2 hp1 hs => by
        have e0 : (A ++ M1) ++ U2 ++ V2 ++ B = A ++ M1 ++ (U2 ++ V2) ++ B := by simp
        have lm : M1.length = U1.length + V1.length := by rw [hp1.length_eq, List.length_append]
        have el : (A ++ M1 ++ (U2 ++ V2) ++ B).length = D.length := by rw [HDD.out]; simp; omega
        have hl' := HL.out
        rw [← HDD.out] at hl'
        have h := HI.out (A ++ M1) U2 V2 B md en b W ⟨by rw [e0]; exact hs.row, by simp; omega, by omega, by omega, qU.2.1, qV.2.1, fun u hu v hv => HLT.out u (mU2 u hu) v (mV2 v hv), fun x hx => HUB.out x (mU2 x hx), fun x hx => HVB.out x (mV2 x hx), by rw [e0, el]; exact hl'⟩ h1 h2 (by omega) (HC.out.on hs.bel)
        rw [e0, el, ← y1] at h
        refine h.mono ?_
        rintro e w' ⟨rfl, M2, s1, s2, s3⟩
        exact ⟨rfl, M2, s2, s3, hs.tr s1⟩
      have FIN : Hid (∀ W (M1 M2 : List Int), M1.Perm (U1 ++ V1) → M1.Pairwise lx → M2.Perm (U2 ++ V2) → M2.Pairwise lx → SI w blk (A ++ M1 ++ M2 ++ B) W → Mg lx w blk A G B W) := fun W M1 M2 h1 h2 h3 h4 hs => by
        rw [HG.out]
        have j := sm_join h1 h3 h2 h4 HU.out HV.out q3 q4
        exact ⟨M1 ++ M2, by rw [← List.append_assoc]; exact hs, j.2, j.1⟩
      have S1P : Hid (U1.length = 0 ∨ V1.length = 0 → (U1 ++ V1).Pairwise lx) := fun h => by
        rcases h with h | h <;> rw [List.length_eq_zero_iff.1 h]
        · exact qV.1
        · rw [List.append_nil]; exact qU.1
      have S2P : Hid (U2.length = 0 ∨ V2.length = 0 → (U2 ++ V2).Pairwise lx) := fun h => by
        rcases h with h | h <;> rw [List.length_eq_zero_iff.1 h]
        · exact qV.2.1
        · rw [List.append_nil]; exact qU.2.1
      have o3 : (n : Int) ≤ 2000000 := by omega
      have o4 : (r : Int) ≤ (n : Int) := by omega
      clear qU qV mU1 mU2 mV1 mV2 q3 q4
      have ly : U1.length + V1.length = md - a ∧ U2.length + V2.length = b - md := by omega
      by_cases hu1 : 0 < U1.length
      · skip
        by_cases hu2 : 0 < U2.length
        · skip
          by_cases hv1 : 0 < V1.length
          · skip
            by_cases hv2 : 0 < V2.length
            · skip
              have t1 : (r : Int) < (m : Int) := by omega
              have t2 : (m : Int) < (n : Int) - (r : Int) := by omega
              have t3 : (a : Int) < (r : Int) := by omega
              have t4 : (r : Int) < (md : Int) := by omega
              have t5 : (md : Int) < (n : Int) - (r : Int) := by omega
              have t6 : (n : Int) - (r : Int) < (b : Int) := by omega
              have Hu1 := Lib.hid hu1
              have Hu2 := Lib.hid hu2
              have Hv1 := Lib.hid hv1
              have Hv2 := Lib.hid hv2
              clear hu1 hu2 hv1 hv2 y1 hen hd hm hbb ha hkk hb hn q1 q2
              go_wp2_with (first
                | (go_at_call 154; (with_reducible refine (FR.out Hu2.out Hv1.out).mono ?_); rintro e w1 ⟨rfl, s1⟩; have S1 := Lib.hid s1; clear s1)
                | (go_at_call 149; (with_reducible refine (F1.out _ Hu1.out Hv1.out S1.out).mono ?_); rintro e w2 ⟨rfl, M1, p1, p2, s2⟩; have M1P := Lib.hid p1; have M1S := Lib.hid p2; have S2 := Lib.hid s2; clear p1 p2 s2)
                | (go_at_call 149; (with_reducible refine (F2.out _ _ Hu2.out Hv2.out M1P.out S2.out).mono ?_); rintro e w3 ⟨rfl, M2, p1, p2, s3⟩; have M2P := Lib.hid p1; have M2S := Lib.hid p2; have S3 := Lib.hid s3; clear p1 p2 s3))
              go_end0
              exact ⟨rfl, FIN.out _ _ _ M1P.out M1S.out M2P.out M2S.out S3.out⟩
            · replace hv2 : V2.length = 0 := by omega
              have t1 : (r : Int) < (m : Int) := by omega
              have t2 : (m : Int) < (n : Int) - (r : Int) := by omega
              have t3 : (a : Int) < (r : Int) := by omega
              have t4 : (r : Int) < (md : Int) := by omega
              have t5 : (md : Int) < (n : Int) - (r : Int) := by omega
              have t6 : ¬ (n : Int) - (r : Int) < (b : Int) := by omega
              have Hu1 := Lib.hid hu1
              have Hu2 := Lib.hid hu2
              have Hv1 := Lib.hid hv1
              have Hv2 := Lib.hid hv2
              clear hu1 hu2 hv1 hv2 y1 hen hd hm hbb ha hkk hb hn q1 q2
              go_wp2_with (first
                | (go_at_call 154; (with_reducible refine (FR.out Hu2.out Hv1.out).mono ?_); rintro e w1 ⟨rfl, s1⟩; have S1 := Lib.hid s1; clear s1)
                | (go_at_call 149; (with_reducible refine (F1.out _ Hu1.out Hv1.out S1.out).mono ?_); rintro e w2 ⟨rfl, M1, p1, p2, s2⟩; have M1P := Lib.hid p1; have M1S := Lib.hid p2; have S2 := Lib.hid s2; clear p1 p2 s2; have M2P : Hid (List.Perm (U2 ++ V2) (U2 ++ V2)) := List.Perm.refl _; have M2S : Hid (List.Pairwise lx (U2 ++ V2)) := S2P.out (.inr Hv2.out); have S3 := S2))
              go_end0
              exact ⟨rfl, FIN.out _ _ _ M1P.out M1S.out M2P.out M2S.out S3.out⟩
          · replace hv1 : V1.length = 0 := by omega
            by_cases hv2 : 0 < V2.length
            · skip
              have t1 : (r : Int) < (m : Int) := by omega
              have t2 : ¬ (m : Int) < (n : Int) - (r : Int) := by omega
              have t3 : (a : Int) < (r : Int) := by omega
              have t4 : ¬ (r : Int) < (md : Int) := by omega
              have t5 : (md : Int) < (n : Int) - (r : Int) := by omega
              have t6 : (n : Int) - (r : Int) < (b : Int) := by omega
              have Hu1 := Lib.hid hu1
              have Hu2 := Lib.hid hu2
              have Hv1 := Lib.hid hv1
              have Hv2 := Lib.hid hv2
              have S1 : Hid (SI w blk (A ++ (U1 ++ V1) ++ (U2 ++ V2) ++ B) wr) := FN.out (.inr Hv1.out)
              have M1P : Hid (List.Perm (U1 ++ V1) (U1 ++ V1)) := List.Perm.refl _
              have M1S : Hid (List.Pairwise lx (U1 ++ V1)) := S1P.out (.inr Hv1.out)
              have S2 := S1
              clear hu1 hu2 hv1 hv2 y1 hen hd hm hbb ha hkk hb hn q1 q2
              go_wp2_with (first
                | (go_at_call 149; (with_reducible refine (F2.out _ _ Hu2.out Hv2.out M1P.out S2.out).mono ?_); rintro e w3 ⟨rfl, M2, p1, p2, s3⟩; have M2P := Lib.hid p1; have M2S := Lib.hid p2; have S3 := Lib.hid s3; clear p1 p2 s3))
              go_end0
              exact ⟨rfl, FIN.out _ _ _ M1P.out M1S.out M2P.out M2S.out S3.out⟩
            · replace hv2 : V2.length = 0 := by omega
              exfalso; omega
        · replace hu2 : U2.length = 0 := by omega
          by_cases hv1 : 0 < V1.length
          · skip
            by_cases hv2 : 0 < V2.length
            · skip
              have t1 : ¬ (r : Int) < (m : Int) := by omega
              have t2 : (m : Int) < (n : Int) - (r : Int) := by omega
              have t3 : (a : Int) < (r : Int) := by omega
              have t4 : (r : Int) < (md : Int) := by omega
              have t5 : ¬ (md : Int) < (n : Int) - (r : Int) := by omega
              have t6 : (n : Int) - (r : Int) < (b : Int) := by omega
              have Hu1 := Lib.hid hu1
              have Hu2 := Lib.hid hu2
              have Hv1 := Lib.hid hv1
              have Hv2 := Lib.hid hv2
              have S1 : Hid (SI w blk (A ++ (U1 ++ V1) ++ (U2 ++ V2) ++ B) wr) := FN.out (.inl Hu2.out)
              clear hu1 hu2 hv1 hv2 y1 hen hd hm hbb ha hkk hb hn q1 q2
              go_wp2_with (first
                | (go_at_call 149; (with_reducible refine (F1.out _ Hu1.out Hv1.out S1.out).mono ?_); rintro e w2 ⟨rfl, M1, p1, p2, s2⟩; have M1P := Lib.hid p1; have M1S := Lib.hid p2; have S2 := Lib.hid s2; clear p1 p2 s2; have M2P : Hid (List.Perm (U2 ++ V2) (U2 ++ V2)) := List.Perm.refl _; have M2S : Hid (List.Pairwise lx (U2 ++ V2)) := S2P.out (.inl Hu2.out); have S3 := S2))
              go_end0
              exact ⟨rfl, FIN.out _ _ _ M1P.out M1S.out M2P.out M2S.out S3.out⟩
            · replace hv2 : V2.length = 0 := by omega
              exfalso; omega
          · replace hv1 : V1.length = 0 := by omega
            by_cases hv2 : 0 < V2.length
            · skip
              have t1 : ¬ (r : Int) < (m : Int) := by omega
              have t2 : ¬ (m : Int) < (n : Int) - (r : Int) := by omega
              have t3 : (a : Int) < (r : Int) := by omega
              have t4 : ¬ (r : Int) < (md : Int) := by omega
              have t5 : ¬ (md : Int) < (n : Int) - (r : Int) := by omega
              have t6 : (n : Int) - (r : Int) < (b : Int) := by omega
              have Hu1 := Lib.hid hu1
              have Hu2 := Lib.hid hu2
              have Hv1 := Lib.hid hv1
              have Hv2 := Lib.hid hv2
              have S1 : Hid (SI w blk (A ++ (U1 ++ V1) ++ (U2 ++ V2) ++ B) wr) := FN.out (.inl Hu2.out)
              have M1P : Hid (List.Perm (U1 ++ V1) (U1 ++ V1)) := List.Perm.refl _
              have M1S : Hid (List.Pairwise lx (U1 ++ V1)) := S1P.out (.inr Hv1.out)
              have S2 := S1
              have M2P : Hid (List.Perm (U2 ++ V2) (U2 ++ V2)) := List.Perm.refl _
              have M2S : Hid (List.Pairwise lx (U2 ++ V2)) := S2P.out (.inl Hu2.out)
              have S3 := S2
              clear hu1 hu2 hv1 hv2 y1 hen hd hm hbb ha hkk hb hn q1 q2
              go_wp2
              go_end0
              exact ⟨rfl, FIN.out _ _ _ M1P.out M1S.out M2P.out M2S.out S3.out⟩
            · replace hv2 : V2.length = 0 := by omega
              exfalso; omega
      · replace hu1 : U1.length = 0 := by omega
        by_cases hu2 : 0 < U2.length
        · skip
          by_cases hv1 : 0 < V1.length
          · skip
            by_cases hv2 : 0 < V2.length
            · skip
              have t1 : (r : Int) < (m : Int) := by omega
              have t2 : (m : Int) < (n : Int) - (r : Int) := by omega
              have t3 : ¬ (a : Int) < (r : Int) := by omega
              have t4 : (r : Int) < (md : Int) := by omega
              have t5 : (md : Int) < (n : Int) - (r : Int) := by omega
              have t6 : (n : Int) - (r : Int) < (b : Int) := by omega
              have Hu1 := Lib.hid hu1
              have Hu2 := Lib.hid hu2
              have Hv1 := Lib.hid hv1
              have Hv2 := Lib.hid hv2
              clear hu1 hu2 hv1 hv2 y1 hen hd hm hbb ha hkk hb hn q1 q2
              go_wp2_with (first
                | (go_at_call 154; (with_reducible refine (FR.out Hu2.out Hv1.out).mono ?_); rintro e w1 ⟨rfl, s1⟩; have S1 := Lib.hid s1; clear s1; have M1P : Hid (List.Perm (U1 ++ V1) (U1 ++ V1)) := List.Perm.refl _; have M1S : Hid (List.Pairwise lx (U1 ++ V1)) := S1P.out (.inl Hu1.out); have S2 := S1)
                | (go_at_call 149; (with_reducible refine (F2.out _ _ Hu2.out Hv2.out M1P.out S2.out).mono ?_); rintro e w3 ⟨rfl, M2, p1, p2, s3⟩; have M2P := Lib.hid p1; have M2S := Lib.hid p2; have S3 := Lib.hid s3; clear p1 p2 s3))
              go_end0
              exact ⟨rfl, FIN.out _ _ _ M1P.out M1S.out M2P.out M2S.out S3.out⟩
            · replace hv2 : V2.length = 0 := by omega
              have t1 : (r : Int) < (m : Int) := by omega
              have t2 : (m : Int) < (n : Int) - (r : Int) := by omega
              have t3 : ¬ (a : Int) < (r : Int) := by omega
              have t4 : (r : Int) < (md : Int) := by omega
              have t5 : (md : Int) < (n : Int) - (r : Int) := by omega
              have t6 : ¬ (n : Int) - (r : Int) < (b : Int) := by omega
              have Hu1 := Lib.hid hu1
              have Hu2 := Lib.hid hu2
              have Hv1 := Lib.hid hv1
              have Hv2 := Lib.hid hv2
              clear hu1 hu2 hv1 hv2 y1 hen hd hm hbb ha hkk hb hn q1 q2
              go_wp2_with (first
                | (go_at_call 154; (with_reducible refine (FR.out Hu2.out Hv1.out).mono ?_); rintro e w1 ⟨rfl, s1⟩; have S1 := Lib.hid s1; clear s1; have M1P : Hid (List.Perm (U1 ++ V1) (U1 ++ V1)) := List.Perm.refl _; have M1S : Hid (List.Pairwise lx (U1 ++ V1)) := S1P.out (.inl Hu1.out); have S2 := S1; have M2P : Hid (List.Perm (U2 ++ V2) (U2 ++ V2)) := List.Perm.refl _; have M2S : Hid (List.Pairwise lx (U2 ++ V2)) := S2P.out (.inr Hv2.out); have S3 := S2))
              go_end0
              exact ⟨rfl, FIN.out _ _ _ M1P.out M1S.out M2P.out M2S.out S3.out⟩
          · replace hv1 : V1.length = 0 := by omega
            by_cases hv2 : 0 < V2.length
            · skip
              exfalso; omega
            · replace hv2 : V2.length = 0 := by omega
              exfalso; omega
        · replace hu2 : U2.length = 0 := by omega
          by_cases hv1 : 0 < V1.length
          · skip
            by_cases hv2 : 0 < V2.length
            · skip
              exfalso; omega
            · replace hv2 : V2.length = 0 := by omega
              exfalso; omega
          · replace hv1 : V1.length = 0 := by omega
            by_cases hv2 : 0 < V2.length
            · skip
              exfalso; omega
            · replace hv2 : V2.length = 0 := by omega
              exfalso; omega

end Go.Proofs.Ytmecggncedhehaa
