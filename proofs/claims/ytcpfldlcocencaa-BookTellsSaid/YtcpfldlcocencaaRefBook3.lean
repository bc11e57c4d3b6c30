/-
  What the reference posts, place by place, and its trial.
-/
import Derived.Test.YtcpfldlcocencaaRefBook2
import Derived.Test.YtcpfldlcocencaaLawBook
namespace Go.Proofs.Ytcpfldlcocencaa
open Go.RowKit
set_option linter.unusedVariables false

/-- what stands at a place of the order of books -/
def atN (T : List (Int × Int × Int)) (n : Nat) : Int := sumAt T ((n / 21 : Nat) : Int) ((n % 21 : Nat) : Int)
/-- the lines of the first places -/
def outF (T : List (Int × Int × Int)) : Nat → List (Int × Int × Int)
  | 0 => []
  | n + 1 => if atN T n = 0 then outF T n else outF T n ++ [(((n / 21 : Nat) : Int), ((n % 21 : Nat) : Int), atN T n)]
theorem outF_len (T : List (Int × Int × Int)) (n : Nat) : (outF T n).length ≤ n := by
  induction n with
  | zero => exact Nat.le_refl _
  | succ n ih =>
    rw [outF]
    split
    · omega
    · rw [List.length_append, List.length_singleton]; omega
theorem outF_0 {T : List (Int × Int × Int)} {n : Nat} (h : atN T n = 0) : outF T (n + 1) = outF T n := by rw [outF, if_pos h]
theorem outF_1 {T : List (Int × Int × Int)} {n : Nat} (h : ¬ atN T n = 0) : outF T (n + 1) = outF T n ++ [(((n / 21 : Nat) : Int), ((n % 21 : Nat) : Int), atN T n)] := by rw [outF, if_neg h]
theorem atN_is (T : List (Int × Int × Int)) (a u : Nat) (hu : u < 21) : atN T (a * 21 + u) = sumAt T (a : Int) (u : Int) := by
  unfold atN
  rw [show (a * 21 + u) / 21 = a by omega, show (a * 21 + u) % 21 = u by omega]
theorem outF_facts {T : List (Int × Int × Int)} (n : Nat) (hn : n ≤ 2121) (ha : ∀ i, i < n → amtB (atN T i) = true) : Strict (-1) (outF T n) ∧ (∀ q ∈ outF T n, plc q < (n : Int) ∧ q.2.2 = sumAt T q.1 q.2.1) ∧ ∀ i, i < n → atN T i ≠ 0 → (((i / 21 : Nat) : Int), ((i % 21 : Nat) : Int), atN T i) ∈ outF T n := by
  induction n with
  | zero => exact ⟨trivial, by simp [outF], fun i hi => absurd hi (Nat.not_lt_zero i)⟩
  | succ n ih =>
    obtain ⟨h1, h2, h3⟩ := ih (by omega) fun i hi => ha i (by omega)
    by_cases hz : atN T n = 0
    · rw [outF_0 hz]
      refine ⟨h1, fun q hq => ⟨by have := (h2 q hq).1; omega, (h2 q hq).2⟩, fun i hi hne => ?_⟩
      rcases Nat.lt_or_ge i n with h | h
      · exact h3 i h hne
      · obtain rfl : i = n := by omega
        exact absurd hz hne
    · rw [outF_1 hz]
      have hA := amt_t (ha n (by omega))
      have hpt : ptB (((n / 21 : Nat) : Int), ((n % 21 : Nat) : Int), atN T n) = true := pt_mk ⟨by simp only; omega, by simp only; omega, by simp only; omega, by simp only; omega, hz, hA.1, hA.2⟩
      have hpl : plc (((n / 21 : Nat) : Int), ((n % 21 : Nat) : Int), atN T n) = (n : Int) := by unfold plc; simp only; omega
      refine ⟨strict_snoc h1 hpt (by rw [hpl]; omega) fun q hq => by rw [hpl]; exact (h2 q hq).1, fun q hq => ?_, fun i hi hne => ?_⟩
      · rcases List.mem_append.1 hq with h | h
        · exact ⟨by have := (h2 q h).1; omega, (h2 q h).2⟩
        · rw [List.mem_singleton.1 h, hpl]
          exact ⟨by omega, rfl⟩
      · rcases Nat.lt_or_ge i n with h | h
        · exact List.mem_append_left _ (h3 i h hne)
        · obtain rfl : i = n := by omega
          exact List.mem_append_right _ (by simp)
theorem outF_book {T : List (Int × Int × Int)} (hT : ∀ p ∈ T, ptB p = true) (ha : ∀ i, i < 2121 → amtB (atN T i) = true) : IsBook (outF T 2121) T := by
  obtain ⟨h1, h2, h3⟩ := outF_facts 2121 (Nat.le_refl _) ha
  refine isBook_mk h1 (fun p hp => (h2 p hp).2) fun q hq hne => ?_
  have hb := pt_t (hT q hq)
  obtain ⟨a, ha'⟩ : ∃ a : Nat, q.1 = (a : Int) := ⟨q.1.toNat, by omega⟩
  obtain ⟨u, hu'⟩ : ∃ u : Nat, q.2.1 = (u : Int) := ⟨q.2.1.toNat, by omega⟩
  have e := atN_is T a u (by omega)
  rw [ha', hu', ← e] at hne
  have hm := h3 (a * 21 + u) (by omega) hne
  exact ⟨_, hm, by simp only; rw [ha']; omega, by simp only; rw [hu']; omega⟩
theorem all_amt {T : List (Int × Int × Int)} (hT : ∀ p ∈ T, ptB p = true) (ha : ∀ i, i < 2121 → amtB (atN T i) = true) (a u : Int) : amtB (sumAt T a u) = true := by
  by_cases hq : ∃ q ∈ T, q.1 = a ∧ q.2.1 = u
  · obtain ⟨q, hq, rfl, rfl⟩ := hq
    have hb := pt_t (hT q hq)
    obtain ⟨a, ha'⟩ : ∃ a : Nat, q.1 = (a : Int) := ⟨q.1.toNat, by omega⟩
    obtain ⟨u, hu'⟩ : ∃ u : Nat, q.2.1 = (u : Int) := ⟨q.2.1.toNat, by omega⟩
    rw [ha', hu', ← atN_is T a u (by omega)]
    exact ha _ (by omega)
  · rw [sumAt_none fun q hq' e => hq ⟨q, hq', e⟩]; decide
/-- Post has one answer -/
theorem postRes_one {b l R R' : List (Int × Int × Int)} {E E' : Int} (h : PostRes b l R E) (h' : PostRes b l R' E') : R = R' ∧ E = E' := by
  rcases h with ⟨h1, h2, h3⟩ | ⟨h0, h1, h2, h3⟩ | ⟨h0, h1, h2⟩
  · rcases h' with ⟨_, k2, k3⟩ | ⟨k0, _⟩ | ⟨k0, _⟩
    · exact ⟨h3.trans k3.symm, h2.trans k2.symm⟩
    · exact absurd k0 h1
    · exact absurd k0 h1
  · rcases h' with ⟨k1, _⟩ | ⟨_, _, k2, k3⟩ | ⟨_, k1, _⟩
    · exact absurd h0 k1
    · exact ⟨h3.trans k3.symm, h2.trans k2.symm⟩
    · exact absurd k1 h1
  · rcases h' with ⟨k1, _⟩ | ⟨_, k1, _⟩ | ⟨_, _, k2⟩
    · exact absurd h0 k1
    · exact absurd h1 k1
    · rcases h2 with ⟨h2, h3, a, u, h4⟩ | ⟨ha, L, hB, h2⟩
      · rcases k2 with ⟨k2, k3, _⟩ | ⟨ka, _⟩
        · exact ⟨h3.trans k3.symm, h2.trans k2.symm⟩
        · rw [ka a u] at h4; cases h4
      · rcases k2 with ⟨_, _, a, u, k4⟩ | ⟨_, L', hB', k2⟩
        · rw [ha a u] at k4; cases k4
        · have e : L = L' := book_ext hB hB' fun _ _ => rfl
          subst e
          rcases h2 with ⟨h5, h3, h4⟩ | ⟨h5, h3, h4⟩ <;> rcases k2 with ⟨k5, k3, k4⟩ | ⟨k5, k3, k4⟩
          · exact ⟨h4.trans k4.symm, h3.trans k3.symm⟩
          · omega
          · omega
          · exact ⟨h4.trans k4.symm, h3.trans k3.symm⟩

theorem own_reads3 {w : World} {B : Nat} {v : Value} {b l : List (Int × Int × Int)} (h : OwnsP w B v ([] ++ b ++ l)) (hp : ∀ p ∈ b ++ l, ptB p = true) : ReadsP w v (b ++ l) := h.reads (inP_of hp)
theorem rpost_lin (v u : Value) (b l : List (Int × Int × Int)) (w : World) (hb : ReadsP w v b) (h : linE b ≠ 0) : Calls Try.prog 14 #[v, u] w (PostEnd w b l) := by
  have LB := Lib.hid (rlines_any v b w hb)
  have HP : Hid (PostRes b l [] (linE b)) := .inl ⟨h, rfl, rfl⟩
  have q : (linE b != 0) = true := bne_iff_ne.2 h
  have q2 : (linE b == 0) = false := beq_eq_false_iff_ne.2 h
  clear h hb
  generalize linE b = E at *
  go_enter Try.func14, Try.ntmps14
  go_wp2_with (go_at_call 15; (with_reducible refine LB.out.mono ?_); rintro e w1 ⟨rfl, k1⟩)
  go_ret2
  exact ⟨k1, [], E, _, HP.out, OwnsP.nil _ _, rfl⟩
theorem rpost_chk (v u : Value) (b l : List (Int × Int × Int)) (w : World) (hb : ReadsP w v b) (hl : ReadsP w u l) (h0 : linE b = 0) (h : chkE l ≠ 0) : Calls Try.prog 14 #[v, u] w (PostEnd w b l) := by
  have LB := Lib.hid (h0 ▸ rlines_any v b w hb)
  have CB := Lib.hid (fun w hl => rchk_any u l w hl)
  have RL := Lib.hid hl
  have HP : Hid (PostRes b l [] (chkE l)) := .inr (.inl ⟨h0, h, rfl, rfl⟩)
  have q : (chkE l != 0) = true := bne_iff_ne.2 h
  clear h hb hl h0
  generalize chkE l = E at *
  go_enter Try.func14, Try.ntmps14
  go_wp2_with (first
    | (go_at_call 15; (with_reducible refine LB.out.mono ?_); rintro e w1 ⟨rfl, k1⟩; have K1 := Lib.hid k1; clear k1)
    | (go_at_call 17; (with_reducible refine (CB.out _ (RL.out.kpt K1.out)).mono ?_); rintro e w2 ⟨rfl, k2⟩; have K2 := Lib.hid (ktr K1.out k2); clear k2))
  go_ret2
  exact ⟨K2.out, [], E, _, HP.out, OwnsP.nil _ _, rfl⟩

set_option maxRecDepth 100000 in
set_option maxHeartbeats 8000000 in
theorem rpost_ok (v u : Value) (b l : List (Int × Int × Int)) (w : World) (hb : ReadsP w v b) (hl : ReadsP w u l) (h0 : linE b = 0) (h1 : chkE l = 0) : Calls Try.prog 14 #[v, u] w (PostEnd w b l) := by
  have LB := Lib.hid (h0 ▸ rlines_any v b w hb)
  have CB := Lib.hid (fun w hl => (h1 ▸ rchk_any u l w hl : Calls Try.prog 17 #[u] w fun e w' => e = .returned (.int .i64 0) ∧ Kpt w w'))
  have RB := Lib.hid hb; have RL := Lib.hid hl
  have PT := Lib.hid (pts_both h0 h1)
  have lb := (lin_0 h0).1
  have ll := (chk_0 h1).2.1
  have H0 := Lib.hid h0; have H1 := Lib.hid h1
  clear hb hl h0 h1
  go_enter Try.func14, Try.ntmps14
  go_wp2_with (first
    | (go_at_call 15; (with_reducible refine LB.out.mono ?_); rintro e w1 ⟨rfl, k1⟩; have K1 := Lib.hid k1; clear k1)
    | (go_at_call 17; (with_reducible refine (CB.out _ (RL.out.kpt K1.out)).mono ?_); rintro e w2 ⟨rfl, k2⟩; have K2 := Lib.hid (ktr K1.out k2); clear k2)
    | (at_builtin; refine wp_appendP rfl (.tmp 22) (.tmp 23) rfl w2.heap.size _ _ [] b _ rfl (own_empty w2 w2.heap.size (Nat.le_refl _)) rfl ((RB.out.kpt K2.out).kpt ((Kpt.refl _).alloc _)) (by simp; omega) (by simp) ?_; intro v4 w4 ho4 hb4; have O4 := Lib.hid ho4; have M4 : Hid (Kpt w2 w4) := Lib.hid (Below.trans ((Kpt.refl w2).alloc _) hb4); have K4 := Lib.hid (ktr K2.out M4.out); clear ho4 hb4)
    | (at_builtin; refine wp_appendP rfl (.tmp 24) (.tmp 25) rfl w2.heap.size _ _ ([] ++ b) l _ rfl O4.out rfl (RL.out.kpt K4.out) (by simp; omega) M4.out.size ?_; intro v5 w5 ho5 hb5; have O5 := Lib.hid ho5; have M5 : Hid (Kpt w2 w5) := Lib.hid (Below.trans M4.out hb5); have K5 := Lib.hid (ktr K2.out M5.out); clear ho5 hb5 O4 M4 K4))
  have RT := Lib.hid (own_reads3 O5.out PT.out)
  have hTl : (b ++ l).length ≤ 460 := by rw [List.length_append]; omega
  obtain ⟨T, hT⟩ : ∃ T, T = b ++ l := ⟨_, rfl⟩
  rw [← hT] at RT hTl PT
  have HT := Lib.hid hT
  clear hT
  go_loopw [8, 9] (fun m i wr => ∃ a : Nat, a ≤ 101 ∧ i = .int .i64 a ∧ Hid (OwnsP wr w5.heap.size m (outF T (a * 21))) ∧ Hid (∀ i, i < a * 21 → amtB (atN T i) = true) ∧ Hid (Kpt w5 wr)) (fun _ i _ => 101 - (intOf i).toNat)
  case atStart => exact ⟨0, Nat.zero_le _, rfl, OwnsP.nil _ _, (fun i hi => absurd hi (by omega)), Kpt.refl _⟩
  case round =>
    obtain ⟨a, ha, rfl, HO, HA, HJ⟩ := hrel
    by_cases hlt : a < 101
    · have a100 : (a : Int) ≤ 100 := by omega
      have a0 : (0 : Int) ≤ (a : Int) := by omega
      go_wp2
      go_loopw [8, 10] (fun m i wr => ∃ c : Nat, c ≤ 21 ∧ i = .int .i64 c ∧ Hid (OwnsP wr w5.heap.size m (outF T (a * 21 + c))) ∧ Hid (∀ i, i < a * 21 + c → amtB (atN T i) = true) ∧ Hid (Kpt w5 wr)) (fun _ i _ => 21 - (intOf i).toNat)
      case atStart => exact ⟨0, Nat.zero_le _, rfl, HO.out, HA.out, HJ.out⟩
      case round =>
        obtain ⟨c, hc, rfl, HO, HA, HJ⟩ := hrel
        by_cases hlt2 : c < 21
        · have c20 : (c : Int) ≤ 20 := by omega
          have AP := Lib.hid (fun w hr => amts_place v5 T a c w hr (by omega) a0)
          have hal := amtsOf_len T T.length (a : Int) (c : Int)
          rw [List.take_length] at hal
          have HAT := Lib.hid (atN_is T a c hlt2)
          have OL := outF_len T (a * 21 + c)
          cases hA : amtB (sumAt T (a : Int) (c : Int)) with
          | false =>
            have SO := Lib.hid (fun v' w' base (h : Owns w' base v' (amtsOf T a c)) => sumOf_no v' (amtsOf T a c) _ h (by omega) (amtsOf_amt PT.out a c) (amtsOf_sum T a c) hA)
            have HP : Hid (PostRes b l [] 8) := .inr (.inr ⟨H0.out, H1.out, .inl ⟨rfl, rfl, a, c, by rw [← HT.out]; exact hA⟩⟩)
            clear hA
            go_wp2_with (first
              | (go_at_call 36; (with_reducible refine (AP.out _ (RT.out.kpt HJ.out)).mono ?_); rintro e w6 ⟨v6, rfl, O6, k6⟩; have K6 := Lib.hid (ktr HJ.out k6.out); clear k6)
              | (go_at_call 24; (with_reducible refine (SO.out _ _ _ O6.out).mono ?_); rintro e w7 ⟨r7, rfl, k7⟩; have K7 := Lib.hid (ktr K6.out k7); clear k7))
            go_ret2
            exact ⟨ktr K5.out K7.out, [], 8, _, HP.out, OwnsP.nil _ _, rfl⟩
          | true =>
            have SO := Lib.hid (fun v' w' base (h : Owns w' base v' (amtsOf T a c)) => sumOf_own v' (amtsOf T a c) _ h (by omega) (amtsOf_amt PT.out a c) (amtsOf_sum T a c) hA)
            have HX : Hid (∀ i, i < a * 21 + (c + 1) → amtB (atN T i) = true) := fun i hi => by
              rcases Nat.lt_or_ge i (a * 21 + c) with h | h
              · exact HA.out i h
              · obtain rfl : i = a * 21 + c := by omega
                rw [HAT.out]; exact hA
            have hAm := amt_t hA
            clear hA
            by_cases hz : sumAt T (a : Int) (c : Int) = 0
            · have HN : Hid (outF T (a * 21 + (c + 1)) = outF T (a * 21 + c)) := outF_0 (T := T) (n := a * 21 + c) (by rw [HAT.out]; exact hz)
              have z : (sumAt T (a : Int) (c : Int) != 0) = false := by rw [hz]; rfl
              clear hz
              generalize sumAt T (a : Int) (c : Int) = S at *
              go_wp2_with (first
                | (go_at_call 36; (with_reducible refine (AP.out _ (RT.out.kpt HJ.out)).mono ?_); rintro e w6 ⟨v6, rfl, O6, k6⟩; have K6 := Lib.hid (ktr HJ.out k6.out); have J6 := Lib.hid k6.out; clear k6)
                | (go_at_call 24; (with_reducible refine (SO.out _ _ _ O6.out).mono ?_); rintro e w7 ⟨rfl, k7⟩; have K7 := Lib.hid (ktr K6.out k7); have HO7 := Lib.hid (HO.out.kpt (ktr J6.out k7)); clear k7))
              go_roundw
              case rel => exact ⟨c + 1, by omega, by go_num, by unfold Hid; rw [HN.out]; exact HO7.out, HX.out, K7.out⟩
              case measure => simp [intOf]; omega
            · have HN : Hid (outF T (a * 21 + (c + 1)) = outF T (a * 21 + c) ++ [((a : Int), (c : Int), sumAt T (a : Int) (c : Int))]) := by
                have := outF_1 (T := T) (n := a * 21 + c) (by rw [HAT.out]; exact hz)
                rw [HAT.out, show (a * 21 + c) / 21 = a by omega, show (a * 21 + c) % 21 = c by omega] at this
                exact this
              have z : (sumAt T (a : Int) (c : Int) != 0) = true := bne_iff_ne.2 hz
              have hIn : Hid (InP [((a : Int), (c : Int), sumAt T (a : Int) (c : Int))]) := fun x hx => by
                rw [List.mem_singleton.1 hx]
                simp only
                omega
              clear hz
              generalize sumAt T (a : Int) (c : Int) = S at *
              go_wp2_with (first
                | (go_at_call 36; (with_reducible refine (AP.out _ (RT.out.kpt HJ.out)).mono ?_); rintro e w6 ⟨v6, rfl, O6, k6⟩; have K6 := Lib.hid (ktr HJ.out k6.out); have J6 := Lib.hid k6.out; clear k6)
                | (go_at_call 24; (with_reducible refine (SO.out _ _ _ O6.out).mono ?_); rintro e w7 ⟨rfl, k7⟩; have K7 := Lib.hid (ktr K6.out k7); have HO7 := Lib.hid (HO.out.kpt (ktr J6.out k7)); have HR7 := Lib.hid (reads_one w7 ((a : Int), (c : Int), S) w7.heap.size 35 rfl hIn.out); clear k7)
                | (at_builtin; refine wp_appendP rfl (.tmp 47) (.tmp 52) rfl w5.heap.size _ _ (outF T (a * 21 + c)) [((a : Int), (c : Int), S)] _ rfl (HO7.out.alloc _) rfl HR7.out (by simp; omega) (Nat.le_trans K7.out.size (by simp)) ?_; intro v8 w8 ho8 hb8; have HO8 : Hid (OwnsP w8 w5.heap.size v8 (outF T (a * 21 + (c + 1)))) := (by unfold Hid; rw [HN.out]; exact ho8); have K8 : Hid (Kpt w5 w8) := Below.trans (K7.out.alloc _) hb8; clear ho8 hb8))
              go_roundw
              case rel => exact ⟨c + 1, by omega, by go_num, HO8.out, HX.out, K8.out⟩
              case measure => simp [intOf]; omega
        · obtain rfl : c = 21 := by omega
          go_wp2
          go_roundw
          case rel => exact ⟨a + 1, by omega, by go_num, by unfold Hid; rw [show (a + 1) * 21 = a * 21 + 21 by omega]; exact HO.out, by unfold Hid; rw [show (a + 1) * 21 = a * 21 + 21 by omega]; exact HA.out, HJ.out⟩
          case measure => simp [intOf]; omega
    · obtain rfl : a = 101 := by omega
      have BK := Lib.hid (outF_book PT.out HA.out)
      have AL := Lib.hid (all_amt PT.out HA.out)
      rw [HT.out] at AL
      have BK2 : Hid (IsBook (outF T 2121) (b ++ l)) := by unfold Hid; rw [← HT.out]; exact BK.out
      have HO2 : Hid (OwnsP wr w5.heap.size u8 (outF T 2121)) := HO.out
      clear HO HA BK
      generalize outF T 2121 = R at *
      obtain ⟨ar, cr, rfl⟩ := HO2.out.form
      have hrl := HO2.out.reads (inP_of (strict_pt BK2.out.strict)) |>.len
      unfold maxLen at hrl
      by_cases hlen : 400 < R.length
      · have HP : Hid (PostRes b l [] 2) := .inr (.inr ⟨H0.out, H1.out, .inr ⟨AL.out, R, BK2.out, .inl ⟨hlen, rfl, rfl⟩⟩⟩)
        have hi : (400 : Int) < (R.length : Int) := by omega
        go_wp2
        go_ret2
        exact ⟨ktr K5.out HJ.out, [], 2, _, HP.out, OwnsP.nil _ _, rfl⟩
      · have HP : Hid (PostRes b l R 0) := .inr (.inr ⟨H0.out, H1.out, .inr ⟨AL.out, R, BK2.out, .inr ⟨by omega, rfl, rfl⟩⟩⟩)
        have hi : decide ((400 : Int) < (R.length : Int)) = false := decide_eq_false (by omega)
        go_wp2
        go_ret2
        exact ⟨ktr K5.out HJ.out, R, 0, _, HP.out, HO2.out.base K5.out.size, rfl⟩
theorem rpost_any (v u : Value) (b l : List (Int × Int × Int)) (w : World) (hb : ReadsP w v b) (hl : ReadsP w u l) : Calls Try.prog 14 #[v, u] w (PostEnd w b l) := by
  by_cases h0 : linE b = 0
  · by_cases h1 : chkE l = 0
    · exact rpost_ok v u b l w hb hl h0 h1
    · exact rpost_chk v u b l w hb hl h0 h1
  · exact rpost_lin v u b l w hb h0

end Go.Proofs.Ytcpfldlcocencaa
