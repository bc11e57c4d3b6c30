/-
  Merged: LawB1.
-/
import Derived.Test.YtoakibgekeajeaaBmF
import Derived.Test.YtoakibgekeajeaaSameInts
-- LawB1
namespace Go.Proofs.Ytoakibgekeajeaa
open Go.RowKit Go.Lib
set_option linter.unusedVariables false

theorem takG_zero (U p : Int → Int) (lim : Int) : ∀ (os : List Int) (tk : List Int), (∀ o ∈ os, 0 ≤ U o) → (takG U p lim os 0 tk).2 = 0
  | [], _, _ => rfl
  | o :: os, tk, hU => by
    have h0 := hU o (by simp)
    unfold takG
    split
    · rfl
    · rw [show (0 : Int) - min 0 (U o) = 0 by omega]
      exact takG_zero U p lim os _ (fun x hx => hU x (by simp [hx]))
theorem one_left (ps : List (Int × Int × Int)) : ∀ (os : List Int) (u : Int) (tk : List Int), (∀ o ∈ os, 0 ≤ uO ps o) → os.Pairwise (fun a b => pO ps a ≤ pO ps b) → 0 ≤ u → (llF ps os u).2 = 0 → (takG (uO ps) (pO ps) (llF ps os u).1 os u tk).2 = 0
  | [], _, _, _, _, _, h => by cases h
  | o :: os, u, tk, hU, hp, hu, h => by
    have h0 := hU o (by simp)
    have hp' := List.pairwise_cons.1 hp
    unfold llF at h ⊢
    by_cases hz : u - uO ps o ≤ 0
    · rw [if_pos hz] at h ⊢
      simp only
      unfold takG
      rw [if_neg (by omega), show u - min u (uO ps o) = 0 by omega]
      exact takG_zero _ _ _ _ _ fun x hx => hU x (by simp [hx])
    · rw [if_neg hz] at h ⊢
      obtain ⟨q, hq, e⟩ := llF_price ps os _ h
      have := hp'.1 q hq
      unfold takG
      rw [if_neg (by omega), show u - min u (uO ps o) = u - uO ps o by omega]
      exact one_left ps os _ _ (fun x hx => hU x (by simp [hx])) hp'.2 (by omega) h
theorem one_less (ps : List (Int × Int × Int)) (lim : Int) : ∀ (os : List Int) (u : Int) (tk : List Int), (∀ o ∈ os, 0 ≤ uO ps o) → 0 < u → (llF ps os u).2 = 0 → lim < (llF ps os u).1 → 0 < (takG (uO ps) (pO ps) lim os u tk).2
  | [], _, _, _, _, h, _ => by cases h
  | o :: os, u, tk, hU, hu, h, hl => by
    have h0 := hU o (by simp)
    unfold llF at h hl
    by_cases hz : u - uO ps o ≤ 0
    · rw [if_pos hz] at hl
      unfold takG
      rw [if_pos hl]; exact hu
    · rw [if_neg hz] at h hl
      unfold takG
      by_cases hd : lim < pO ps o
      · rw [if_pos hd]; exact hu
      · rw [if_neg hd, show u - min u (uO ps o) = u - uO ps o by omega]
        exact one_less ps lim os _ _ (fun x hx => hU x (by simp [hx])) (by omega) h hl
theorem one_some (ps : List (Int × Int × Int)) : ∀ (os : List Int) (u : Int) (tk : List Int), os.Nodup → (∀ o ∈ os, 0 ≤ o ∧ o < tk.length ∧ 0 < uO ps o) → os.Pairwise (fun a b => pO ps a ≤ pO ps b) → 0 < u → (llF ps os u).2 = 0 → ∃ o ∈ os, 0 < (takG (uO ps) (pO ps) (llF ps os u).1 os u tk).1.getD o.toNat 0 ∧ pO ps o = (llF ps os u).1
  | [], _, _, _, _, _, _, h => by cases h
  | o :: os, u, tk, hd, hU, hp, hu, h => by
    have h0 := hU o (by simp)
    have hp' := List.pairwise_cons.1 hp
    have hd' := List.nodup_cons.1 hd
    unfold llF at h ⊢
    by_cases hz : u - uO ps o ≤ 0
    · rw [if_pos hz] at h ⊢
      simp only
      refine ⟨o, by simp, ?_, rfl⟩
      unfold takG
      rw [if_neg (by omega), takG_out _ _ _ os _ _ o (fun x hx => (hU x (by simp [hx])).1) h0.1 hd'.1]
      rw [List.getD_eq_getElem?_getD, List.getElem?_set_self (by omega)]
      simp only [Option.getD_some]; omega
    · rw [if_neg hz] at h ⊢
      obtain ⟨q, hq, e⟩ := llF_price ps os _ h
      have := hp'.1 q hq
      obtain ⟨r, hr, h1, h2⟩ := one_some ps os (u - uO ps o) (tk.set o.toNat (min u (uO ps o))) hd'.2 (fun x hx => by rw [List.length_set]; exact hU x (by simp [hx])) hp'.2 (by omega) h
      refine ⟨r, by simp [hr], ?_, h2⟩
      unfold takG
      rw [if_neg (by omega), show u - min u (uO ps o) = u - uO ps o by omega]
      exact h1

/-- somebody of whom some are taken, at that price -/
def smF (T : List Int) (ps : List (Int × Int × Int)) (L : Int) (k : Nat) : Bool := (List.range k).any fun j => decide (0 < T.getD j 0) && decide ((ps.getD j default).2.2 = L)
theorem smF_s (T : List Int) (ps : List (Int × Int × Int)) (L : Int) (k : Nat) : smF T ps L (k + 1) = (smF T ps L k || (decide (0 < T.getD k 0) && decide ((ps.getD k default).2.2 = L))) := by
  unfold smF; rw [List.range_succ, List.any_append]; simp

set_option maxRecDepth 100000 in
set_option maxHeartbeats 1000000 in
theorem bone_no (v : Value) (ps : List (Int × Int × Int)) (u : Int) (w : World) (hr : ReadsP w v ps) (hE : oneE ps u ≠ 0) : Calls Try.prog 5 #[v, .int .i64 u] w fun x w' => x = .returned (.bool true) ∧ Kpt w w' := by
  have B := Lib.hid (one_bad v ps u w hr hE)
  have q : (oneE ps u != 0) = true := bne_iff_ne.2 hE
  clear hr hE
  generalize oneE ps u = E at *
  go_enter Try.func5, Try.ntmps5
  go_wp2_with (first
    | (go_at_call 18; (with_reducible refine B.out.mono ?_); rintro e w1 ⟨rfl, k1⟩; have K0 := Lib.hid k1; clear k1)
    | (go_at_call 26; (with_reducible refine (buyinBegun _).mono ?_); rintro e w1 ⟨rfl, k1⟩; have K0 := Lib.hid (ktr K0.out k1); clear k1))
  go_ret
  exact ⟨rfl, K0.out⟩

set_option maxRecDepth 100000 in
set_option maxHeartbeats 8000000 in
theorem bone_ok (a : Option Addr) (cap : Nat) (ps : List (Int × Int × Int)) (T T2 : List Int) (M2 u L : Int) (w : World) (h40 : ps.length ≤ 40) (hL : 0 ≤ L ∧ L ≤ 1099511627776) (hTl : T.length = ps.length) (hs : smF T ps L ps.length = true) (hM2 : 0 < L → M2 ≠ 0)
    (hr : ReadsP w (.slice a ps.length cap) ps)
    (O0 : Calls Try.prog 18 #[.slice a ps.length cap, .int .i64 u] w fun e w' => ∃ g, e = .returned (.tuple #[.int .i64 L, .slice (some ⟨g, 0, none⟩) ps.length ps.length, .int .i64 0]) ∧ w.heap.size ≤ g ∧ Row w' g T ∧ Kpt w w')
    (B0 : TkR w (.slice a ps.length cap) ps.length u L T 0) (B1 : 0 < L → TkR w (.slice a ps.length cap) ps.length u (L - 1) T2 M2) :
    Calls Try.prog 5 #[.slice a ps.length cap, .int .i64 u] w fun x w' => x = .returned (.bool true) ∧ Kpt w w' := by
  have O := Lib.hid O0
  have B := Lib.hid B0
  have BB := Lib.hid B1
  have TL := Lib.hid hTl
  have HS := Lib.hid hs
  have HC : Hid (∀ j, j < ps.length → ∃ b off, a = some ⟨b, off, none⟩ ∧ PtAt w b (off + j * 3) (ps.getD j default)) := by
    obtain ⟨a', cap', e, -, -, -, hc⟩ := hr
    injection e with e1 _ e3
    subst e1 e3
    exact hc
  have SI : Hid (∀ w' g g', Row w' g T → Row w' g' T → Calls Try.prog 27 #[.slice (some ⟨g, 0, none⟩) ps.length ps.length, .slice (some ⟨g', 0, none⟩) ps.length ps.length] w' fun e w'' => e = .returned (.bool true) ∧ Kpt w' w'') := fun w' g g' r r' => by
    have h1 := r.reads (by unfold maxLen; omega) ps.length
    have h2 := r'.reads (by unfold maxLen; omega) ps.length
    rw [hTl] at h1 h2
    exact sameI_run _ _ T w' h1 h2
  obtain ⟨L0, L1⟩ := hL
  have m1 : IntKind.i64.wrap (L - 1) = L - 1 := IntWalk.i64_in _ (by omega)
  have HM := Lib.hid hM2
  clear O0 B0 B1 hTl hr hs hM2
  by_cases hz : 0 < L
  · have d : decide (0 < L) = true := decide_eq_true hz
    have C := Lib.hid (BB.out hz)
    have q : (M2 == 0) = false := beq_eq_false_iff_ne.2 (HM.out hz)
    clear hz BB HM
    go_enter Try.func5, Try.ntmps5
    go_wp2_with (first
      | (go_at_call 18; (with_reducible refine O.out.mono ?_); rintro e w1 ⟨g, rfl, _, r1, k1⟩; have K0 := Lib.hid k1; have R1 := Lib.hid r1; clear k1 r1)
      | (go_at_call 26; (with_reducible refine (buyinBegun _).mono ?_); rintro e w1 ⟨rfl, k1⟩; have K0 := Lib.hid (ktr K0.out k1); have R1 := Lib.hid (Row.kptL R1.out k1); clear k1)
      | (go_at_call 16; (with_reducible refine (B.out.run _ K0.out).mono ?_); rintro e w1 ⟨g2, rfl, _, r1, k1⟩; have K0 := Lib.hid (ktr K0.out k1); have R1 := Lib.hid (Row.kptL R1.out k1); have R2 := Lib.hid r1; clear k1 r1)
      | (go_at_call 27; (with_reducible refine (SI.out _ _ _ R2.out R1.out).mono ?_); rintro e w1 ⟨rfl, k1⟩; have K0 := Lib.hid (ktr K0.out k1); have R1 := Lib.hid (Row.kptL R1.out k1); clear k1)
      | (go_at_call 16; (with_reducible refine (C.out.run _ K0.out).mono ?_); rintro e w1 ⟨g3, rfl, _, _, k1⟩; have K0 := Lib.hid (ktr K0.out k1); have R1 := Lib.hid (Row.kptL R1.out k1); clear k1))
    go_loopw [14, 15] (fun vs vi wr => ∃ (k : Nat) (s : Bool), k ≤ ps.length ∧ vi = .int .i64 k ∧ vs = .bool s ∧ Hid (s = smF T ps L k) ∧ Hid (Row wr g T) ∧ Hid (Kpt w wr)) (fun _ vi _ => ps.length - (intOf vi).toNat)
    case atStart => exact ⟨0, false, Nat.zero_le _, rfl, rfl, rfl, R1.out, K0.out⟩
    case round =>
      obtain ⟨k, s, hk, rfl, rfl, HSM, HR, HK⟩ := hrel
      clear R1 K0
      by_cases hlt : k < ps.length
      · have c1 := HR.out.cell (j := k) (by rw [TL.out]; exact hlt)
        obtain ⟨b, off, rfl, hp⟩ := HC.out k hlt
        obtain ⟨-, -, c3⟩ := hp.kpt HK.out
        have HSS := Lib.hid (smF_s T ps L k)
        clear hp
        generalize T.getD k 0 = t at *
        generalize (ps.getD k default).2.2 = D at *
        have k0 : (0 : Int) ≤ (k : Int) := by omega
        have k1 : (k : Int) < ps.length := by omega
        cases s with
        | true =>
          have E1 : Hid (true = smF T ps L (k + 1)) := by unfold Hid; rw [HSS.out, ← HSM.out]; rfl
          go_wp2
          go_roundw
          case rel => exact ⟨k + 1, true, by omega, by go_num, rfl, E1.out, HR.out, HK.out⟩
          case measure => simp [intOf]; omega
        | false =>
          by_cases t0 : 0 < t
          · have d1 : decide (0 < t) = true := decide_eq_true t0
            by_cases hD : D = L
            · have d2 : (D == L) = true := beq_iff_eq.2 hD
              have E1 : Hid (true = smF T ps L (k + 1)) := by unfold Hid; rw [HSS.out, decide_eq_true t0, decide_eq_true hD]; simp
              clear t0 hD
              go_wp2
              go_roundw
              case rel => exact ⟨k + 1, true, by omega, by go_num, rfl, E1.out, HR.out, HK.out⟩
              case measure => simp [intOf]; omega
            · have d2 : (D == L) = false := beq_eq_false_iff_ne.2 hD
              have E1 : Hid (false = smF T ps L (k + 1)) := by unfold Hid; rw [HSS.out, ← HSM.out, decide_eq_false hD]; simp
              clear t0 hD
              go_wp2
              go_roundw
              case rel => exact ⟨k + 1, false, by omega, by go_num, rfl, E1.out, HR.out, HK.out⟩
              case measure => simp [intOf]; omega
          · have d1 : decide (0 < t) = false := decide_eq_false t0
            have E1 : Hid (false = smF T ps L (k + 1)) := by unfold Hid; rw [HSS.out, ← HSM.out, decide_eq_false t0]; simp
            clear t0
            go_wp2
            go_roundw
            case rel => exact ⟨k + 1, false, by omega, by go_num, rfl, E1.out, HR.out, HK.out⟩
            case measure => simp [intOf]; omega
      · obtain rfl : k = ps.length := by omega
        obtain rfl : s = true := by rw [HSM.out]; exact HS.out
        go_wp2
        go_ret
        exact ⟨rfl, HK.out⟩
  · have d : decide (0 < L) = false := decide_eq_false hz
    clear hz BB HM
    go_enter Try.func5, Try.ntmps5
    go_wp2_with (first
      | (go_at_call 18; (with_reducible refine O.out.mono ?_); rintro e w1 ⟨g, rfl, _, r1, k1⟩; have K0 := Lib.hid k1; have R1 := Lib.hid r1; clear k1 r1)
      | (go_at_call 26; (with_reducible refine (buyinBegun _).mono ?_); rintro e w1 ⟨rfl, k1⟩; have K0 := Lib.hid (ktr K0.out k1); have R1 := Lib.hid (Row.kptL R1.out k1); clear k1)
      | (go_at_call 16; (with_reducible refine (B.out.run _ K0.out).mono ?_); rintro e w1 ⟨g2, rfl, _, r1, k1⟩; have K0 := Lib.hid (ktr K0.out k1); have R1 := Lib.hid (Row.kptL R1.out k1); have R2 := Lib.hid r1; clear k1 r1)
      | (go_at_call 27; (with_reducible refine (SI.out _ _ _ R2.out R1.out).mono ?_); rintro e w1 ⟨rfl, k1⟩; have K0 := Lib.hid (ktr K0.out k1); have R1 := Lib.hid (Row.kptL R1.out k1); clear k1))
    go_loopw [14, 15] (fun vs vi wr => ∃ (k : Nat) (s : Bool), k ≤ ps.length ∧ vi = .int .i64 k ∧ vs = .bool s ∧ Hid (s = smF T ps L k) ∧ Hid (Row wr g T) ∧ Hid (Kpt w wr)) (fun _ vi _ => ps.length - (intOf vi).toNat)
    case atStart => exact ⟨0, false, Nat.zero_le _, rfl, rfl, rfl, R1.out, K0.out⟩
    case round =>
      obtain ⟨k, s, hk, rfl, rfl, HSM, HR, HK⟩ := hrel
      clear R1 K0
      by_cases hlt : k < ps.length
      · have c1 := HR.out.cell (j := k) (by rw [TL.out]; exact hlt)
        obtain ⟨b, off, rfl, hp⟩ := HC.out k hlt
        obtain ⟨-, -, c3⟩ := hp.kpt HK.out
        have HSS := Lib.hid (smF_s T ps L k)
        clear hp
        generalize T.getD k 0 = t at *
        generalize (ps.getD k default).2.2 = D at *
        have k0 : (0 : Int) ≤ (k : Int) := by omega
        have k1 : (k : Int) < ps.length := by omega
        cases s with
        | true =>
          have E1 : Hid (true = smF T ps L (k + 1)) := by unfold Hid; rw [HSS.out, ← HSM.out]; rfl
          go_wp2
          go_roundw
          case rel => exact ⟨k + 1, true, by omega, by go_num, rfl, E1.out, HR.out, HK.out⟩
          case measure => simp [intOf]; omega
        | false =>
          by_cases t0 : 0 < t
          · have d1 : decide (0 < t) = true := decide_eq_true t0
            by_cases hD : D = L
            · have d2 : (D == L) = true := beq_iff_eq.2 hD
              have E1 : Hid (true = smF T ps L (k + 1)) := by unfold Hid; rw [HSS.out, decide_eq_true t0, decide_eq_true hD]; simp
              clear t0 hD
              go_wp2
              go_roundw
              case rel => exact ⟨k + 1, true, by omega, by go_num, rfl, E1.out, HR.out, HK.out⟩
              case measure => simp [intOf]; omega
            · have d2 : (D == L) = false := beq_eq_false_iff_ne.2 hD
              have E1 : Hid (false = smF T ps L (k + 1)) := by unfold Hid; rw [HSS.out, ← HSM.out, decide_eq_false hD]; simp
              clear t0 hD
              go_wp2
              go_roundw
              case rel => exact ⟨k + 1, false, by omega, by go_num, rfl, E1.out, HR.out, HK.out⟩
              case measure => simp [intOf]; omega
          · have d1 : decide (0 < t) = false := decide_eq_false t0
            have E1 : Hid (false = smF T ps L (k + 1)) := by unfold Hid; rw [HSS.out, ← HSM.out, decide_eq_false t0]; simp
            clear t0
            go_wp2
            go_roundw
            case rel => exact ⟨k + 1, false, by omega, by go_num, rfl, E1.out, HR.out, HK.out⟩
            case measure => simp [intOf]; omega
      · obtain rfl : k = ps.length := by omega
        obtain rfl : s = true := by rw [HSM.out]; exact HS.out
        go_wp2
        go_ret
        exact ⟨rfl, HK.out⟩

theorem bone_plain (v : Value) (u : Int) (ps : List (Int × Int × Int)) (w : World) (hr : ReadsP w v ps) : Calls Try.prog 5 #[v, .int .i64 u] w fun x w' => x = .returned (.bool true) ∧ Kpt w w' := by
  obtain ⟨a, cap, rfl, -, -, -, -⟩ := id hr
  by_cases hE : oneE ps u = 0
  · have ht := one_take hE
    obtain ⟨h1, hp⟩ := takE_0 ht
    obtain ⟨h0, u0, u1⟩ := for_0 h1
    obtain ⟨h40, hall⟩ := loan_0 h0
    have h5 : (llF ps (ordB ps) u).2 = 0 := by unfold oneE at hE; rwa [if_pos h1] at hE
    have od := ordB_is ps
    have hU : ∀ o ∈ ordB ps, 1 ≤ uO ps o := fun o ho => by have := uO_bd hall (od.mem.1 ho); omega
    have hlf : (takR ps u (oneL ps u)).2 = 0 := by
      unfold takR oneL
      rw [takF_eq]
      exact one_left ps _ u _ (fun o ho => by have := hU o ho; omega) (ordB_prices hall) (by omega) h5
    have hok := take_is_ok (u := u) (lim := oneL ps u) h0 (by omega)
    have hs : smF (takR ps u (oneL ps u)).1 ps (oneL ps u) ps.length = true := by
      obtain ⟨o, ho, g1, g2⟩ := one_some ps (ordB ps) u (List.replicate ps.length 0) od.nodup (fun o ho => by have := od.mem.1 ho; have := hU o ho; rw [List.length_replicate]; omega) (ordB_prices hall) (by omega) h5
      rw [← takF_eq] at g1
      have hm := od.mem.1 ho
      unfold smF
      refine List.any_eq_true.2 ⟨o.toNat, List.mem_range.2 (by omega), ?_⟩
      rw [Bool.and_eq_true]
      exact ⟨decide_eq_true g1, decide_eq_true g2⟩
    have hL := prc_t hp
    have B : TkR w (.slice a ps.length cap) ps.length u (oneL ps u) (takR ps u (oneL ps u)).1 0 := fun w' k => by
      have := take_ok a cap ps u (oneL ps u) w' (hr.kpt k) ht
      rwa [hlf] at this
    refine bone_ok a cap ps _ (takR ps u (oneL ps u - 1)).1 (takR ps u (oneL ps u - 1)).2 u (oneL ps u) w h40 hL hok.len hs (fun hz => ?_) hr (one_ok a cap ps u w hr hE) B (fun hz w' k => ?_)
    · have := one_less ps (oneL ps u - 1) (ordB ps) u (List.replicate ps.length 0) (fun o ho => by have := hU o ho; omega) (by omega) h5 (by unfold oneL; omega)
      rw [← takF_eq] at this
      unfold takR; omega
    · have ht2 : takE ps u (oneL ps u - 1) = 0 := by
        unfold takE
        rw [if_pos h1, if_pos (prc_mk (by omega) (by omega))]
      exact take_ok a cap ps u _ w' (hr.kpt k) ht2
  · exact bone_no _ ps u w hr hE

end Go.Proofs.Ytoakibgekeajeaa
