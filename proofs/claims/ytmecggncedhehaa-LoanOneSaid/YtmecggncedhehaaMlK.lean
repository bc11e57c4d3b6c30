/-
  Merged: LawLK.
-/
import Derived.Test.YtmecggncedhehaaMlF
import Derived.Test.YtmecggncedhehaaSl
-- LawLK
namespace Go.Proofs.Ytmecggncedhehaa
open Go.RowKit Go.Lib
set_option linter.unusedVariables false

theorem together_nil (a : Option Addr) (cap : Nat) (w : World) : Calls Try.prog 38 #[.slice a 0 cap] w fun e w' => e = .returned (.int .i64 0) ∧ Kpt w w' := by
  go_enter Try.func38, Try.ntmps38
  go_wp2
  go_loop [3, 4] (fun s i => i = .int .i64 0 ∧ s = .int .i64 0) (fun _ _ => 0)
  case atStart => exact ⟨rfl, rfl⟩
  case round =>
    obtain ⟨rfl, rfl⟩ := hrel
    go_wp2
    go_ret
    exact ⟨rfl, Kpt.refl _⟩
theorem together_all (v : Value) (zs : List Int) (w : World) (hr : Reads w v zs) (hn : ∀ z ∈ zs, 0 ≤ z) (hs : zs.sum ≤ 4611686018427387904) : Calls Try.prog 38 #[v] w fun e w' => e = .returned (.int .i64 zs.sum) ∧ Kpt w w' := by
  by_cases h0 : 0 < zs.length
  · exact together_kpt v zs w hr h0 hn hs
  · obtain ⟨a, cap, rfl, -⟩ := hr
    have e : zs = [] := List.eq_nil_of_length_eq_zero (by omega)
    subst e
    exact together_nil a cap w

/-- what a call of Back answers: an error, or a list -/
def BkE (w0 : World) (v lv : Value) (u E : Int) : Prop := ∀ w', Kpt w0 w' → Calls Try.prog 28 #[v, lv, .int .i64 u] w' fun e w'' => e = .returned (.tuple #[.slice none 0 0, .int .i64 E]) ∧ Kpt w' w''
def BkR (w0 : World) (v lv : Value) (n : Nat) (u : Int) (R : List Int) : Prop := ∀ w', Kpt w0 w' → Calls Try.prog 28 #[v, lv, .int .i64 u] w' fun e w'' => ∃ a c, e = .returned (.tuple #[.slice a n c, .int .i64 0]) ∧ Reads w'' (.slice a n c) R ∧ Kpt w' w''
theorem BkE.run {w0 : World} {v lv : Value} {u E : Int} (h : BkE w0 v lv u E) (w' : World) (k : Kpt w0 w') : Calls Try.prog 28 #[v, lv, .int .i64 u] w' fun e w'' => e = .returned (.tuple #[.slice none 0 0, .int .i64 E]) ∧ Kpt w' w'' := h w' k
theorem BkR.run {w0 : World} {v lv : Value} {n : Nat} {u : Int} {R : List Int} (h : BkR w0 v lv n u R) (w' : World) (k : Kpt w0 w') : Calls Try.prog 28 #[v, lv, .int .i64 u] w' fun e w'' => ∃ a c, e = .returned (.tuple #[.slice a n c, .int .i64 0]) ∧ Reads w'' (.slice a n c) R ∧ Kpt w' w'' := h w' k
theorem BkE.on {w0 w1 : World} {v lv : Value} {u E : Int} (h : BkE w0 v lv u E) (k : Kpt w0 w1) : BkE w1 v lv u E := fun w' k' => h w' (ktr k k')
theorem BkR.on {w0 w1 : World} {v lv : Value} {n : Nat} {u : Int} {R : List Int} (h : BkR w0 v lv n u R) (k : Kpt w0 w1) : BkR w1 v lv n u R := fun w' k' => h w' (ktr k k')
/-- ints that Go holds -/
def InI (ls : List Int) : Prop := ∀ z ∈ ls, -9223372036854775808 ≤ z ∧ z ≤ 9223372036854775807
theorem back_is (v : Value) (la : Option Addr) (lc : Nat) (ps : List (Int × Int × Int)) (ls : List Int) (u : Int) (w : World) (hr : ReadsP w v ps) (hl : Reads w (.slice la ls.length lc) ls) (hw : InI ls) :
    (∃ E, E ≠ 0 ∧ backE ps ls u = E ∧ BkE w v (.slice la ls.length lc) u E) ∨ (backE ps ls u = 0 ∧ lentE ps ls = 0 ∧ (0 ≤ u ∧ u ≤ 1073741824) ∧ u ≤ ls.sum ∧ BkR w v (.slice la ls.length lc) ls.length u (bkL ls u)) := by
  by_cases h1 : lentE ps ls = 0
  · by_cases h2 : 0 ≤ u ∧ u ≤ 1073741824
    · by_cases h3 : ls.sum < u
      · refine .inl ⟨8, by decide, by unfold backE; rw [if_pos h1, if_pos h2, if_pos h3], fun w' k => (back_go v la lc ps ls u w' (hr.kpt k) (hl.kpt k) hw h1 h2).mono ?_⟩
        rintro e w'' ⟨k', ⟨_, rfl⟩ | ⟨h, _⟩⟩
        · exact ⟨rfl, k'⟩
        · omega
      · refine .inr ⟨by unfold backE; rw [if_pos h1, if_pos h2, if_neg h3], h1, h2, by omega, fun w' k => (back_go v la lc ps ls u w' (hr.kpt k) (hl.kpt k) hw h1 h2).mono ?_⟩
        rintro e w'' ⟨k', ⟨h, _⟩ | ⟨_, a, c, rfl, r⟩⟩
        · omega
        · exact ⟨a, c, rfl, r, k'⟩
    · exact .inl ⟨3, by decide, by unfold backE; rw [if_pos h1, if_neg h2], fun w' k => back_rng v _ ps ls u w' (hr.kpt k) (hl.kpt k) hw h1 h2⟩
  · exact .inl ⟨lentE ps ls, h1, by unfold backE; rw [if_neg h1], fun w' k => back_lent v _ ps ls u w' (hr.kpt k) (hl.kpt k) hw h1⟩

set_option maxRecDepth 100000 in
set_option maxHeartbeats 1000000 in
theorem lback_no (v lv : Value) (a b E : Int) (h : E ≠ 0) (w : World) (B0 : BkE w v lv a E) : Calls Try.prog 10 #[v, lv, .int .i64 a, .int .i64 b] w fun x w' => x = .returned (.bool true) ∧ Kpt w w' := by
  have B := Lib.hid B0
  have q : (E != 0) = true := bne_iff_ne.2 h
  have K0 : Hid (Kpt w w) := Kpt.refl w
  clear B0 h
  go_enter Try.func10, Try.ntmps10
  go_wp2_with (first
    | (go_at_call 28; (with_reducible refine (B.out.run _ K0.out).mono ?_); rintro e w1 ⟨rfl, k1⟩; have K0 := Lib.hid (ktr K0.out k1); clear k1)
    | (go_at_call 34; (with_reducible refine (loanBegun _).mono ?_); rintro e w1 ⟨rfl, k1⟩; have K0 := Lib.hid (ktr K0.out k1); clear k1))
  go_ret
  exact ⟨rfl, K0.out⟩

/-- how the last part of the law goes on -/
structure Rest (w0 w1 : World) (v lv xv : Value) (n : Nat) (a b : Int) (R : List Int) : Prop where
  way : (∃ E, E ≠ 0 ∧ BkE w1 v xv b E) ∨ (∃ Y, BkR w1 v xv n b Y ∧ ((BkR w0 v lv n (a + b) Y ∧ 0 ≤ a + b ∧ a + b ≤ 1073741824) ∨ (BkE w0 v lv (a + b) 3 ∧ 1073741824 < a + b ∧ a + b ≤ 4294967296)))

set_option maxRecDepth 100000 in
set_option maxHeartbeats 4000000 in
theorem lback_ok (v : Value) (la : Option Addr) (lc : Nat) (ls R : List Int) (a b S : Int) (w : World) (h40 : ls.length ≤ 40) (hl : Reads w (.slice la ls.length lc) ls) (hR : R.length = ls.length) (hRS : R.sum = S - a) (hS : ls.sum = S) (hSb : 0 ≤ S ∧ S ≤ 4611686018427387904) (hab : 0 ≤ a ∧ a ≤ S) (hn : ∀ z ∈ ls, 0 ≤ z) (hRn : ∀ z ∈ R, 0 ≤ z)
    (hf : ∀ i k : Nat, k < i → i < ls.length → R.getD k 0 < ls.getD k 0 → R.getD i 0 = 0)
    (B0 : BkR w v (.slice la ls.length lc) ls.length a R)
    (T0 : ∀ w1 xa xc, Kpt w w1 → Reads w1 (.slice xa ls.length xc) R → Rest w w1 v (.slice la ls.length lc) (.slice xa ls.length xc) ls.length a b R) :
    Calls Try.prog 10 #[v, .slice la ls.length lc, .int .i64 a, .int .i64 b] w fun x w' => x = .returned (.bool true) ∧ Kpt w w' := by
  have B := Lib.hid B0
  have T := Lib.hid T0
  have TL : Hid (∀ w', Kpt w w' → Calls Try.prog 38 #[.slice la ls.length lc] w' fun e w'' => e = .returned (.int .i64 S) ∧ Kpt w' w'') := fun w' k => by
    have := together_all _ ls w' (hl.kpt k) hn (by omega)
    rwa [hS] at this
  have TR : Hid (∀ w' xa xc, Reads w' (.slice xa ls.length xc) R → Calls Try.prog 38 #[.slice xa ls.length xc] w' fun e w'' => e = .returned (.int .i64 (S - a)) ∧ Kpt w' w'') := fun w' xa xc r => by
    have := together_all _ R w' r hRn (by omega)
    rwa [hRS] at this
  have HF := Lib.hid hf
  have HL := Lib.hid hl.sl
  have HRL := Lib.hid hR
  have K0 : Hid (Kpt w w) := Kpt.refl w
  obtain ⟨s0, s1⟩ := hSb
  obtain ⟨a0, a1⟩ := hab
  clear B0 T0 hl hR hRS hS hn hRn hf
  go_enter Try.func10, Try.ntmps10
  go_wp2_with (first
    | (go_at_call 28; (with_reducible refine (B.out.run _ K0.out).mono ?_); rintro e w1 ⟨xa, xc, rfl, r1, k1⟩; have K0 := Lib.hid (ktr K0.out k1); have R1 := Lib.hid r1; clear k1 r1)
    | (go_at_call 34; (with_reducible refine (loanBegun _).mono ?_); rintro e w1 ⟨rfl, k1⟩; have K0 := Lib.hid (ktr K0.out k1); have R1 := Lib.hid (Reads.kpt R1.out k1); clear k1)
    | (go_at_call 38; first
        | ((with_reducible refine (TR.out _ _ _ R1.out).mono ?_); rintro e w1 ⟨rfl, k1⟩; have K0 := Lib.hid (ktr K0.out k1); have R1 := Lib.hid (Reads.kpt R1.out k1); clear k1)
        | ((with_reducible refine (TL.out _ K0.out).mono ?_); rintro e w1 ⟨rfl, k1⟩; have K0 := Lib.hid (ktr K0.out k1); have R1 := Lib.hid (Reads.kpt R1.out k1); clear k1)))
  go_loopw [11, 12] (fun i _ wr => ∃ k : Nat, k ≤ ls.length ∧ i = .int .i64 k ∧ Hid (Reads wr (.slice xa ls.length xc) R) ∧ Hid (Kpt w wr)) (fun i _ _ => ls.length - (intOf i).toNat)
  case atStart => exact ⟨0, Nat.zero_le _, rfl, R1.out, K0.out⟩
  case round =>
    obtain ⟨i, hi, rfl, HR1, HK⟩ := hrel
    clear R1 K0
    by_cases hlt : i < ls.length
    · go_wp2
      go_loopw [12] (fun q wr2 => ∃ k : Nat, k ≤ i ∧ q = .int .i64 k ∧ Hid (Reads wr2 (.slice xa ls.length xc) R) ∧ Hid (Kpt w wr2)) (fun q _ => i - (intOf q).toNat)
      case atStart => exact ⟨0, Nat.zero_le _, rfl, HR1.out, HK.out⟩
      case round =>
        obtain ⟨k, hk, rfl, HR2, HK2⟩ := hrel
        clear HR1 HK
        by_cases hlk : k < i
        · obtain ⟨xb, xo, rfl, c1⟩ := HR2.out.sl k (by rw [HRL.out]; omega)
          obtain ⟨yb, yo, ey, c2⟩ := HR2.out.sl i (by rw [HRL.out]; exact hlt)
          injection ey with ey
          injection ey with e1 e2 _
          subst e1 e2
          obtain ⟨lb, lo, rfl, c3⟩ := HL.out k (by omega)
          have c4 := HK2.out.cell c3
          have hz := HF.out i k hlk hlt
          clear c3
          have hk1 : k < ls.length := by omega
          generalize R.getD k 0 = p at c1 hz
          generalize R.getD i 0 = q at c2 hz
          generalize ls.getD k 0 = r at c4 hz
          have k0 : (0 : Int) ≤ (k : Int) := by omega
          have k1 : (k : Int) < ls.length := by omega
          have i0 : (0 : Int) ≤ (i : Int) := by omega
          have i1 : (i : Int) < ls.length := by omega
          have j1 : (k : Int) < (i : Int) := by omega
          by_cases hpr : p < r
          · have d1 : decide (p < r) = true := decide_eq_true hpr
            obtain rfl : q = 0 := hz hpr
            clear hz hpr
            go_wp2
            go_quiet (fail)
            go_wp2
            go_roundw
            case rel => exact ⟨k + 1, by omega, by go_num, HR2.out.kpt ((Kpt.refl _).drewN _), HK2.out.drewN _⟩
            case measure => simp [intOf]; omega
          · have d1 : decide (p < r) = false := decide_eq_false hpr
            clear hz hpr
            go_wp2
            go_quiet (fail)
            go_wp2
            go_roundw
            case rel => exact ⟨k + 1, by omega, by go_num, HR2.out.kpt ((Kpt.refl _).drewN _), HK2.out.drewN _⟩
            case measure => simp [intOf]; omega
        · obtain rfl : k = i := by omega
          go_wp2
          go_roundw
          case rel => exact ⟨k + 1, by omega, by go_num, HR2.out, HK2.out⟩
          case measure => simp [intOf]; omega
    · obtain rfl : i = ls.length := by omega
      rcases (T.out wr xa xc HK.out HR1.out).way with ⟨E, hE, b1⟩ | ⟨Y, y1, ⟨z1, z2, z3⟩ | ⟨z1, z2, z3⟩⟩
      · have BE := Lib.hid b1
        have q : (E != 0) = true := bne_iff_ne.2 hE
        clear b1 hE
        go_wp2_with (go_at_call 28; (with_reducible refine (BE.out.run _ (Kpt.refl _)).mono ?_); rintro e w2 ⟨rfl, k1⟩; have K2 := Lib.hid (ktr HK.out k1); clear k1)
        go_ret
        exact ⟨rfl, K2.out⟩
      · have BY := Lib.hid y1
        have BZ := Lib.hid z1
        have m1 : IntKind.i64.wrap (a + b) = a + b := IntWalk.i64_in _ (by omega)
        clear y1 z1
        have SI : Hid (∀ w' u v, Reads w' u Y → Reads w' v Y → Calls Try.prog 37 #[u, v] w' fun e w'' => e = .returned (.bool true) ∧ Kpt w' w'') := fun w' u v => sameI_run u v Y w'
        go_wp2_with (first
          | (go_at_call 28; (with_reducible refine (BY.out.run _ (Kpt.refl _)).mono ?_); rintro e w2 ⟨ya, yc, rfl, r2, k1⟩; have K2 := Lib.hid (ktr HK.out k1); have R2 := Lib.hid r2; clear k1 r2)
          | (go_at_call 28; (with_reducible refine (BZ.out.run _ K2.out).mono ?_); rintro e w3 ⟨za, zc, rfl, r3, k1⟩; have K3 := Lib.hid (ktr K2.out k1); have R2 := Lib.hid (Reads.kpt R2.out k1); have R3 := Lib.hid r3; clear k1 r3)
          | (go_at_call 37; (with_reducible refine (SI.out _ _ _ R2.out R3.out).mono ?_); rintro e w4 ⟨rfl, k1⟩; have K4 := Lib.hid (ktr K3.out k1); clear k1))
        go_ret
        exact ⟨rfl, K4.out⟩
      · have BY := Lib.hid y1
        have BZ := Lib.hid z1
        have m1 : IntKind.i64.wrap (a + b) = a + b := IntWalk.i64_in _ (by omega)
        clear y1 z1
        go_wp2_with (first
          | (go_at_call 28; (with_reducible refine (BY.out.run _ (Kpt.refl _)).mono ?_); rintro e w2 ⟨ya, yc, rfl, r2, k1⟩; have K2 := Lib.hid (ktr HK.out k1); clear k1 r2)
          | (go_at_call 28; (with_reducible refine (BZ.out.run _ K2.out).mono ?_); rintro e w3 ⟨rfl, k1⟩; have K3 := Lib.hid (ktr K2.out k1); clear k1))
        go_ret
        exact ⟨rfl, K3.out⟩

theorem lback_plain (v lv : Value) (a b : Int) (ps : List (Int × Int × Int)) (ls : List Int) (w : World) (hr : ReadsP w v ps) (hl : Reads w lv ls) (hw : InI ls) (ha : -9223372036854775808 ≤ a ∧ a ≤ 9223372036854775807) (hb : -9223372036854775808 ≤ b ∧ b ≤ 9223372036854775807) :
    Calls Try.prog 10 #[v, lv, .int .i64 a, .int .i64 b] w fun x w' => x = .returned (.bool true) ∧ Kpt w w' := by
  obtain ⟨la, lc, rfl, -, -⟩ := id hl
  rcases back_is v la lc ps ls a w hr hl hw with ⟨E, hE, _, B⟩ | ⟨_, hE, h2, h3, B⟩
  · exact lback_no v _ a b E hE w B
  · obtain ⟨hE1, hE2, hE3⟩ := lent_0 hE
    obtain ⟨h40, hall⟩ := loan_0 hE1
    have hbd : ∀ k : Nat, k < ls.length → 0 ≤ ls.getD k 0 ∧ ls.getD k 0 ≤ 1073741824 := fun k hk => by
      have h1 := hE3 k (by omega)
      have h2 := off_t (hall _ (getP_mem (k := k) (by omega)))
      omega
    have hz := nn_of (zs := ls) rfl fun j hj => (hbd j hj).1
    have hzl : ∀ z ∈ ls, z ≤ 1073741824 := fun z hz => by
      obtain ⟨j, hj, rfl⟩ := List.getElem_of_mem hz
      have := hbd j hj
      rw [List.getD_eq_getElem?_getD, List.getElem?_eq_getElem hj] at this
      exact this.2
    have hs := sum_le hzl
    have hs0 := sum_nonneg hz
    have hRb := fun i hi => bkL_bd ls a hz h2.1 i hi
    have hRn := nn_of (bkL_len ls a) fun j hj => (hRb j hj).1
    refine lback_ok v la lc ls (bkL ls a) a b ls.sum w (by omega) hl (bkL_len ls a) (bkL_sum ls a hz h2.1 h3) rfl ⟨hs0, by omega⟩ ⟨h2.1, h3⟩ hz hRn (fun i k hk hi => bkL_first ls a hz h2.1 i k hk hi) B fun w1 xa xc k1 r1 => ⟨?_⟩
    have hRI : InI (bkL ls a) := fun z hz' => by
      obtain ⟨j, hj, rfl⟩ := List.getElem_of_mem hz'
      rw [bkL_len] at hj
      have h5 := hRb j hj
      have h6 := hbd j hj
      rw [List.getD_eq_getElem?_getD, List.getElem?_eq_getElem (by rw [bkL_len]; exact hj)] at h5
      simp only [Option.getD_some] at h5
      omega
    have hL := bkL_len ls a
    have r1' : Reads w1 (.slice xa (bkL ls a).length xc) (bkL ls a) := by rw [hL]; exact r1
    rcases back_is v xa xc ps (bkL ls a) b w1 (hr.kpt k1) r1' hRI with ⟨E, hE', _, B'⟩ | ⟨_, _, g2, g3, B'⟩
    · rw [hL] at B'
      exact .inl ⟨E, hE', B'⟩
    · rw [hL] at B'
      rw [bkL_sum ls a hz h2.1 h3] at g3
      rw [bkL_bkL ls a b hz h2.1 g2.1 h3] at B'
      refine .inr ⟨_, B', ?_⟩
      by_cases hab : a + b ≤ 1073741824
      · refine .inl ⟨?_, by omega, hab⟩
        rcases back_is v la lc ps ls (a + b) w hr hl hw with ⟨E, hE', e, _⟩ | ⟨_, _, _, _, B''⟩
        · exfalso
          unfold backE at e
          rw [if_pos hE, if_pos (by omega), if_neg (by omega)] at e
          exact hE' e.symm
        · exact B''
      · refine .inr ⟨?_, by omega, by omega⟩
        rcases back_is v la lc ps ls (a + b) w hr hl hw with ⟨E, _, e, B''⟩ | ⟨_, _, h, _⟩
        · unfold backE at e
          rw [if_pos hE, if_neg (by omega)] at e
          rw [e]; exact B''
        · omega

end Go.Proofs.Ytmecggncedhehaa
