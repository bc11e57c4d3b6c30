/-
  ShareEven: the law answers true.
-/
import Derived.Test.YteooglpipggeoaaLawMore
import Derived.Test.YteooglpipggeoaaKept
namespace Go.Proofs.Yteooglpipggeoaa
open Go.RowKit Go.Lib
set_option linter.unusedVariables false

theorem rep_at {n : Nat} {z : Int} {j : Nat} (h : j < n) : (List.replicate n z).getD j 0 = z := by
  rw [List.getD_eq_getElem?_getD, List.getElem?_eq_getElem (by simpa using h)]; simp
/-- the first r of n have one more -/
def lvl (q : Int) (r n : Nat) : List Int := (List.range n).map fun j => if j < r then q + 1 else q
theorem lvl_len (q : Int) (r n : Nat) : (lvl q r n).length = n := by simp [lvl]
theorem lvl_at {q : Int} {r n j : Nat} (h : j < n) : (lvl q r n).getD j 0 = if j < r then q + 1 else q := by
  rw [List.getD_eq_getElem?_getD, List.getElem?_eq_getElem (by simpa [lvl] using h)]; simp [lvl]
theorem lvl_nx {dv : Int → Int} (hm : ∀ x y, 0 ≤ x → x < y → dv x < dv y) {q z : Int} (hq : 0 ≤ q) (hz : 0 < z) {r n : Nat} (hr : r < n) : ∀ k, k ≤ n → nx dv (List.replicate n z) (lvl q r n) k = if k ≤ r then 0 else r := by
  intro k
  induction k with
  | zero => intro _; rw [if_pos (Nat.zero_le _)]; rfl
  | succ k ih =>
    intro hk
    have ih := ih (by omega)
    by_cases h : k ≤ r
    · rw [if_pos h] at ih
      rcases Nat.lt_or_eq_of_le h with h1 | h1
      · rw [nx_f, ih, if_pos (by omega)]
        rw [ih, rep_at (by omega), rep_at (by omega), lvl_at (by omega), lvl_at (by omega), if_pos (by omega), if_pos h1]
        omega
      · subst h1
        by_cases h0 : k = 0
        · subst h0
          rw [nx_f, ih]
          · split <;> rfl
          · rw [ih]; omega
        · rw [nx_t, if_neg (by omega)]
          rw [ih, rep_at (by omega), rep_at (by omega), lvl_at (by omega), lvl_at (by omega), if_pos (by omega), if_neg (by omega)]
          exact Int.mul_lt_mul_of_pos_left (hm _ _ hq (by omega)) hz
    · rw [if_neg h] at ih
      rw [nx_f, ih, if_neg (by omega)]
      rw [ih, rep_at (by omega), rep_at (by omega), lvl_at (by omega), lvl_at (by omega), if_neg (by omega), if_neg (by omega)]
      omega
theorem lvl_give {q : Int} {r n : Nat} (hr : r < n) : give (lvl q r n) r = lvl q (r + 1) n := by
  apply List.ext_getElem
  · rw [give_len, lvl_len, lvl_len]
  · intro j h1 h2
    have hj : j < n := by rw [lvl_len] at h2; exact h2
    have e1 := give_at (lvl q r n) r j (by rw [lvl_len]; exact hr)
    have e2 := lvl_at (q := q) (r := r + 1) hj
    rw [lvl_at hj] at e1
    rw [List.getD_eq_getElem?_getD, List.getElem?_eq_getElem h1] at e1
    rw [List.getD_eq_getElem?_getD, List.getElem?_eq_getElem h2] at e2
    simp only [Option.getD_some] at e1 e2
    rw [e1, e2]
    by_cases h : j = r
    · subst h; rw [if_pos rfl, if_neg (by omega), if_pos (by omega)]
    · rw [if_neg h]
      by_cases h' : j < r
      · rw [if_pos h', if_pos (by omega)]
      · rw [if_neg h', if_neg (by omega)]
theorem lvl_full (q : Int) (n : Nat) : lvl q n n = lvl (q + 1) 0 n := by
  unfold lvl
  apply List.map_congr_left
  intro j hj
  rw [if_pos (List.mem_range.1 hj), if_neg (by omega)]
theorem sts_lvl {dv : Int → Int} (hm : ∀ x y, 0 ≤ x → x < y → dv x < dv y) {z : Int} (hz : 0 < z) {n : Nat} (hn : 0 < n) : ∀ t, ∃ q : Int, ∃ r : Nat, 0 ≤ q ∧ r < n ∧ sts dv (List.replicate n z) t = lvl q r n := by
  intro t
  induction t with
  | zero =>
    refine ⟨0, 0, Int.le_refl _, hn, ?_⟩
    apply List.ext_getElem
    · rw [sts_len, lvl_len]; simp
    · intro j h1 h2
      simp [sts, lvl]
  | succ t ih =>
    obtain ⟨q, r, hq, hr, e⟩ := ih
    have st : sts dv (List.replicate n z) (t + 1) = give (sts dv (List.replicate n z) t) (nx dv (List.replicate n z) (sts dv (List.replicate n z) t) (List.replicate n z).length) := rfl
    rw [st, e, List.length_replicate, lvl_nx hm hq hz hr n (Nat.le_refl _), if_neg (by omega), lvl_give hr]
    by_cases h : r + 1 = n
    · rw [h, lvl_full]; exact ⟨q + 1, 0, by omega, hn, rfl⟩
    · exact ⟨q, r + 1, hq, by omega, rfl⟩

/-- a row that never rises, and falls by one at most -/
def Flat (n : Nat) (ss : List Int) : Prop := ss.length = n ∧ ∀ j, j + 1 < n → ss.getD (j + 1) 0 ≤ ss.getD j 0 ∧ ss.getD 0 0 - ss.getD (j + 1) 0 ≤ 1 ∧ 0 ≤ ss.getD 0 0 - ss.getD (j + 1) 0
theorem lvl_flat (q : Int) (r n : Nat) : Flat n (lvl q r n) := by
  refine ⟨lvl_len _ _ _, fun j hj => ?_⟩
  rw [lvl_at (by omega), lvl_at (by omega), lvl_at (by omega)]
  refine ⟨?_, ?_, ?_⟩ <;> (repeat' split) <;> omega
theorem pbs_flat {T z : Int} {n : Nat} (hT : 0 ≤ T) (hE : wtsE (List.replicate n z) = 0) : Flat n (pbs T (List.replicate n z)) := by
  have hl : (List.replicate n z).length = n := List.length_replicate
  refine ⟨by rw [pbs_len, hl], fun j hj => ?_⟩
  have a := fun i (hi : i < n) => pbs_at T (List.replicate n z) (j := i) (by rw [hl]; exact hi)
  have m := fun (i k : Nat) (hi : i < n) (hk : k < n) => pbs_more hT hE (i := i) (k := k) (by rw [hl]; exact hi) (by rw [hl]; exact hk) (by rw [rep_at hi, rep_at hk]; exact Int.le_refl _)
  have h1 := m j (j + 1) (by omega) (by omega)
  have h2 := m 0 (j + 1) (by omega) (by omega)
  have e0 := a 0 (by omega)
  have e1 := a (j + 1) (by omega)
  rw [rep_at (by omega)] at e0 e1
  refine ⟨by omega, ?_, by omega⟩
  rw [e0, e1]
  split <;> split <;> omega
theorem rep_E {z : Int} {n : Nat} (hn : 0 < n) (hn' : n ≤ 40) (hz : 1 ≤ z) (hz' : z ≤ 1099511627776) : wtsE (List.replicate n z) = 0 := by
  have hne : List.replicate n z ≠ [] := by intro e; have := congrArg List.length e; simp at this; omega
  refine wtsE_ok hne (by simpa using hn') (List.all_eq_true.2 fun x hx => decide_eq_true (by rw [(List.mem_replicate.1 hx).2]; omega)) (fun h => ?_)
  unfold Lib.maxOf at h
  have := (foldl_max_le (List.replicate n z) ((List.replicate n z).headD 0)).2 z (List.mem_replicate.2 ⟨by omega, rfl⟩)
  omega
theorem rep_snoc (z : Int) (k : Nat) : List.replicate k z ++ [z] = List.replicate (k + 1) z := by
  rw [List.replicate_succ']

set_option maxRecDepth 100000 in
theorem shareEven_out (T many kind z : Int) (w : World) (h : many < 1 ∨ 40 < many ∨ z < 1 ∨ 1099511627776 < z) :
    Calls Try.prog 6 #[.int .i64 T, .int .i64 many, .int .i64 kind, .int .i64 z] w fun r w' => r = .returned (.bool true) ∧ Below w.heap.size w w' := by
  by_cases h1 : many < 1
  · have d1 : decide (many < 1) = true := decide_eq_true h1
    go_enter Try.func6, Try.ntmps6
    go_wp2_with (go_at_call 19; (with_reducible refine (shareBegun _).mono ?_); rintro e w2 ⟨rfl, b2⟩)
    go_ret
    exact ⟨rfl, b2⟩
  · have d1 : decide (many < 1) = false := decide_eq_false h1
    by_cases h2 : 40 < many
    · have d2 : decide (40 < many) = true := decide_eq_true h2
      go_enter Try.func6, Try.ntmps6
      go_wp2_with (go_at_call 19; (with_reducible refine (shareBegun _).mono ?_); rintro e w2 ⟨rfl, b2⟩)
      go_ret
      exact ⟨rfl, b2⟩
    · have d2 : decide (40 < many) = false := decide_eq_false h2
      by_cases h3 : z < 1
      · have d3 : decide (z < 1) = true := decide_eq_true h3
        go_enter Try.func6, Try.ntmps6
        go_wp2_with (go_at_call 19; (with_reducible refine (shareBegun _).mono ?_); rintro e w2 ⟨rfl, b2⟩)
        go_ret
        exact ⟨rfl, b2⟩
      · have d3 : decide (z < 1) = false := decide_eq_false h3
        have h4 : 1099511627776 < z := by omega
        have d4 : decide (1099511627776 < z) = true := decide_eq_true h4
        go_enter Try.func6, Try.ntmps6
        go_wp2_with (go_at_call 19; (with_reducible refine (shareBegun _).mono ?_); rintro e w2 ⟨rfl, b2⟩)
        go_ret
        exact ⟨rfl, b2⟩


set_option maxRecDepth 100000 in
set_option maxHeartbeats 2000000 in
theorem shareEven_nn (T kind z : Int) (n : Nat) (hn : 0 < n) (hn' : n ≤ 40) (hz : 1 ≤ z) (hz' : z ≤ 1099511627776) (E1 : Int) (hE1 : 1 ≤ E1) (E2 : Int) (hE2 : 1 ≤ E2) (hP : (∀ (b off cap : Nat) (W : World), Reads W (.slice (some ⟨b, off, none⟩) n cap) (List.replicate n z) → Calls Try.prog 15 #[.int .i64 T, .slice (some ⟨b, off, none⟩) n cap] W fun e w' => e = .returned (.tuple #[.slice none 0 0, .int .i64 E1]) ∧ W = w')) (hS : (∀ (b off cap : Nat) (W : World), Reads W (.slice (some ⟨b, off, none⟩) n cap) (List.replicate n z) → Calls Try.prog 16 #[.int .i64 T, .slice (some ⟨b, off, none⟩) n cap, .int .i64 kind] W fun e w' => e = .returned (.tuple #[.slice none 0 0, .int .i64 E2]) ∧ W = w')) (w : World) :
    Calls Try.prog 6 #[.int .i64 T, .int .i64 n, .int .i64 kind, .int .i64 z] w fun r w' => r = .returned (.bool true) ∧ Below w.heap.size w w' := by
  have HP := Lib.hid hP
  have HS := Lib.hid hS
  clear hP hS
  have q1 : (E1 == 0) = false := beq_eq_false_iff_ne.2 (by omega)
  have q2 : (E2 == 0) = false := beq_eq_false_iff_ne.2 (by omega)
  have g1 : decide ((n : Int) < 1) = false := decide_eq_false (by omega)
  have g2 : decide (40 < (n : Int)) = false := decide_eq_false (by omega)
  have g3 : decide (z < 1) = false := decide_eq_false (by omega)
  have g4 : decide (1099511627776 < z) = false := decide_eq_false (by omega)
  go_enter Try.func6, Try.ntmps6
  go_wp2_with (go_at_call 19; (with_reducible refine (shareBegun _).mono ?_); rintro e w2 ⟨rfl, b2⟩; have B2 := Lib.hid b2; clear b2)
  go_loopw [9, 10] (fun v i wr => ∃ k : Nat, k ≤ n ∧ i = .int .i64 k ∧ Hid (Owns wr w2.heap.size v (List.replicate k z)) ∧ Hid (Below w2.heap.size w2 wr)) (fun _ i _ => n - (intOf i).toNat)
  case atStart => exact ⟨0, Nat.zero_le _, rfl, Owns.nil _ _, Below.refl _ _⟩
  case round =>
    obtain ⟨k, hk, rfl, HO, HB⟩ := hrel
    by_cases hlt : k < n
    · have HL : Hid ((List.replicate k z).length + 1 ≤ 1000000) := by unfold Hid; rw [List.length_replicate]; omega
      go_wp2_with (at_builtin; refine wp_append1 rfl (.tmp 37) (.tmp 39) rfl w2.heap.size _ _ z wr rfl HO.out rfl HL.out HB.out.size ?_; intro v' w' ho' hb'; have HO' := Lib.hid ho'; have HB' := Lib.hid hb'; clear ho' hb')
      go_roundw
      case rel => exact ⟨k + 1, by omega, by go_num, by unfold Hid; rw [← rep_snoc]; exact HO'.out, HB.out.trans HB'.out⟩
      case measure => simp [intOf]; omega
    · obtain rfl : k = n := by omega
      have ho := HO.out
      clear HO
      obtain ⟨a, cap2, hv, hrd⟩ := ho.reads
      rw [List.length_replicate] at hv
      rcases hrd.cell with ⟨he, _⟩ | ⟨_, b', off', cap', hv', hc'⟩
      · have := congrArg List.length he; simp at this; omega
      · rw [List.length_replicate] at hv'
        rw [hv] at hv'
        injection hv' with e1 e2 e3
        subst e1 e3 hv
        have CP := Lib.hid (HP.out _ _ _ _ hrd)
        have HRD := Lib.hid hrd
        have HW := Lib.hid (bel B2.out HB.out)
        clear hrd ho hc' HP
        go_wp2_with (first
          | (go_at_call 15; (with_reducible refine CP.out.mono ?_); rintro e w3 ⟨rfl, rfl⟩; have K3 : Hid (Kpt wr wr) := Kpt.refl wr; have CS := Lib.hid (HS.out _ _ _ _ HRD.out))
          | (go_at_call 16; (with_reducible refine CS.out.mono ?_); rintro e w4 ⟨rfl, rfl⟩; have K4 : Hid (Kpt wr wr) := Kpt.refl wr))
        have HK := Lib.hid (ktr (ktr HW.out K3.out) K4.out)
        go_loopw [15] (fun i wq => ∃ j : Nat, 1 ≤ j ∧ j ≤ k ∧ i = .int .i64 j ∧ ∃ q, wq = (wr).drewN q) (fun i _ => k - (intOf i).toNat)
        case atStart => exact ⟨1, Nat.le_refl _, hn, rfl, 0, rfl⟩
        case round =>
          obtain ⟨j, hj, hjk, rfl, q, rfl⟩ := hrel
          have HKq : Hid (Kpt w ((wr).drewN q)) := HK.out.drewN q
          by_cases hlt2 : j < k
          · obtain ⟨m, rfl⟩ : ∃ m, j = m + 1 := ⟨j - 1, by omega⟩
            have l1 : (m : Int) + 1 < (k : Int) := by omega
            have l2 : (m : Int) < (k : Int) := by omega
            have l3 : (0 : Int) < (k : Int) := by omega
            generalize hwz : (wr).drewN q = wz at *
            have HWZ := Lib.hid hwz
            clear hwz
            go_wp2
            go_quiet (fail)
            go_wp2
            go_quiet (fail)
            go_wp2
            case roundEnd => exact ⟨⟨m + 2, by omega, by omega, by go_num, _, by rw [← HWZ.out, World.drewN_drewN]⟩, by simp [intOf]; omega⟩
          · obtain rfl : j = k := by omega
            go_wp2
            go_ret
            exact ⟨rfl, HKq.out⟩

set_option maxRecDepth 100000 in
set_option maxHeartbeats 2000000 in
theorem shareEven_pn (T kind z : Int) (n : Nat) (hn : 0 < n) (hn' : n ≤ 40) (hz : 1 ≤ z) (hz' : z ≤ 1099511627776) (ps : List Int) (hps : Flat n ps) (E2 : Int) (hE2 : 1 ≤ E2) (hP : (∀ (b off cap : Nat) (W : World), Reads W (.slice (some ⟨b, off, none⟩) n cap) (List.replicate n z) → Calls Try.prog 15 #[.int .i64 T, .slice (some ⟨b, off, none⟩) n cap] W fun e w' => ∃ g, e = .returned (.tuple #[.slice (some ⟨g, 0, none⟩) n n, .int .i64 0]) ∧ Row w' g ps ∧ Below W.heap.size W w')) (hS : (∀ (b off cap : Nat) (W : World), Reads W (.slice (some ⟨b, off, none⟩) n cap) (List.replicate n z) → Calls Try.prog 16 #[.int .i64 T, .slice (some ⟨b, off, none⟩) n cap, .int .i64 kind] W fun e w' => e = .returned (.tuple #[.slice none 0 0, .int .i64 E2]) ∧ W = w')) (w : World) :
    Calls Try.prog 6 #[.int .i64 T, .int .i64 n, .int .i64 kind, .int .i64 z] w fun r w' => r = .returned (.bool true) ∧ Below w.heap.size w w' := by
  have HP := Lib.hid hP
  have HS := Lib.hid hS
  clear hP hS
  have HPF := Lib.hid hps.2
  have HPL := Lib.hid hps.1
  clear hps
  have q2 : (E2 == 0) = false := beq_eq_false_iff_ne.2 (by omega)
  have g1 : decide ((n : Int) < 1) = false := decide_eq_false (by omega)
  have g2 : decide (40 < (n : Int)) = false := decide_eq_false (by omega)
  have g3 : decide (z < 1) = false := decide_eq_false (by omega)
  have g4 : decide (1099511627776 < z) = false := decide_eq_false (by omega)
  go_enter Try.func6, Try.ntmps6
  go_wp2_with (go_at_call 19; (with_reducible refine (shareBegun _).mono ?_); rintro e w2 ⟨rfl, b2⟩; have B2 := Lib.hid b2; clear b2)
  go_loopw [9, 10] (fun v i wr => ∃ k : Nat, k ≤ n ∧ i = .int .i64 k ∧ Hid (Owns wr w2.heap.size v (List.replicate k z)) ∧ Hid (Below w2.heap.size w2 wr)) (fun _ i _ => n - (intOf i).toNat)
  case atStart => exact ⟨0, Nat.zero_le _, rfl, Owns.nil _ _, Below.refl _ _⟩
  case round =>
    obtain ⟨k, hk, rfl, HO, HB⟩ := hrel
    by_cases hlt : k < n
    · have HL : Hid ((List.replicate k z).length + 1 ≤ 1000000) := by unfold Hid; rw [List.length_replicate]; omega
      go_wp2_with (at_builtin; refine wp_append1 rfl (.tmp 37) (.tmp 39) rfl w2.heap.size _ _ z wr rfl HO.out rfl HL.out HB.out.size ?_; intro v' w' ho' hb'; have HO' := Lib.hid ho'; have HB' := Lib.hid hb'; clear ho' hb')
      go_roundw
      case rel => exact ⟨k + 1, by omega, by go_num, by unfold Hid; rw [← rep_snoc]; exact HO'.out, HB.out.trans HB'.out⟩
      case measure => simp [intOf]; omega
    · obtain rfl : k = n := by omega
      have ho := HO.out
      clear HO
      obtain ⟨a, cap2, hv, hrd⟩ := ho.reads
      rw [List.length_replicate] at hv
      rcases hrd.cell with ⟨he, _⟩ | ⟨_, b', off', cap', hv', hc'⟩
      · have := congrArg List.length he; simp at this; omega
      · rw [List.length_replicate] at hv'
        rw [hv] at hv'
        injection hv' with e1 e2 e3
        subst e1 e3 hv
        have CP := Lib.hid (HP.out _ _ _ _ hrd)
        have HRD := Lib.hid hrd
        have HW := Lib.hid (bel B2.out HB.out)
        clear hrd ho hc' HP
        go_wp2_with (first
          | (go_at_call 15; (with_reducible refine CP.out.mono ?_); rintro e w3 ⟨g3, rfl, r3, b3⟩; have R3 := Lib.hid r3; have K3 : Hid (Kpt wr w3) := b3; clear r3 b3; have CS := Lib.hid (HS.out _ _ _ _ (HRD.out.kpt K3.out)))
          | (go_at_call 16; (with_reducible refine CS.out.mono ?_); rintro e w4 ⟨rfl, rfl⟩; have K4 : Hid (Kpt w3 w3) := Kpt.refl w3; have R5 := R3))
        have HK := Lib.hid (ktr (ktr HW.out K3.out) K4.out)
        go_loopw [15] (fun i wq => ∃ j : Nat, 1 ≤ j ∧ j ≤ k ∧ i = .int .i64 j ∧ ∃ q, wq = (w3).drewN q) (fun i _ => k - (intOf i).toNat)
        case atStart => exact ⟨1, Nat.le_refl _, hn, rfl, 0, rfl⟩
        case round =>
          obtain ⟨j, hj, hjk, rfl, q, rfl⟩ := hrel
          have HKq : Hid (Kpt w ((w3).drewN q)) := HK.out.drewN q
          by_cases hlt2 : j < k
          · obtain ⟨m, rfl⟩ : ∃ m, j = m + 1 := ⟨j - 1, by omega⟩
            have l1 : (m : Int) + 1 < (k : Int) := by omega
            have l2 : (m : Int) < (k : Int) := by omega
            have l3 : (0 : Int) < (k : Int) := by omega
            have xR : Row ((w3).drewN q) g3 ps := R5.out.block rfl
            have x1 := xR.cell (j := m + 1) (by rw [HPL.out]; exact hlt2)
            have x2 := xR.cell (j := m) (by rw [HPL.out]; omega)
            have x3 := xR.cell (j := 0) (by rw [HPL.out]; omega)
            have xf := HPF.out m hlt2
            clear xR
            generalize ps.getD (m + 1) 0 = xa at x1 xf
            generalize ps.getD m 0 = xb at x2 xf
            generalize ps.getD 0 0 = xc at x3 xf
            have xd : decide (xb < xa) = false := decide_eq_false (by omega)
            have xe : IntKind.i64.wrap (xc - xa) = xc - xa := IntWalk.i64_in _ (by omega)
            have xg : decide (1 < xc - xa) = false := decide_eq_false (by omega)
            clear xf
            generalize hwz : (w3).drewN q = wz at *
            have HWZ := Lib.hid hwz
            clear hwz
            go_wp2
            go_quiet (fail)
            go_wp2
            go_quiet (fail)
            go_wp2
            case roundEnd => exact ⟨⟨m + 2, by omega, by omega, by go_num, _, by rw [← HWZ.out, World.drewN_drewN]⟩, by simp [intOf]; omega⟩
          · obtain rfl : j = k := by omega
            go_wp2
            go_ret
            exact ⟨rfl, HKq.out⟩

set_option maxRecDepth 100000 in
set_option maxHeartbeats 2000000 in
theorem shareEven_ps (T kind z : Int) (n : Nat) (hn : 0 < n) (hn' : n ≤ 40) (hz : 1 ≤ z) (hz' : z ≤ 1099511627776) (ps : List Int) (hps : Flat n ps) (ss : List Int) (hss : Flat n ss) (hP : (∀ (b off cap : Nat) (W : World), Reads W (.slice (some ⟨b, off, none⟩) n cap) (List.replicate n z) → Calls Try.prog 15 #[.int .i64 T, .slice (some ⟨b, off, none⟩) n cap] W fun e w' => ∃ g, e = .returned (.tuple #[.slice (some ⟨g, 0, none⟩) n n, .int .i64 0]) ∧ Row w' g ps ∧ Below W.heap.size W w')) (hS : (∀ (b off cap : Nat) (W : World), Reads W (.slice (some ⟨b, off, none⟩) n cap) (List.replicate n z) → Calls Try.prog 16 #[.int .i64 T, .slice (some ⟨b, off, none⟩) n cap, .int .i64 kind] W fun e w' => ∃ g, e = .returned (.tuple #[.slice (some ⟨g, 0, none⟩) n n, .int .i64 0]) ∧ Row w' g ss ∧ Below W.heap.size W w')) (w : World) :
    Calls Try.prog 6 #[.int .i64 T, .int .i64 n, .int .i64 kind, .int .i64 z] w fun r w' => r = .returned (.bool true) ∧ Below w.heap.size w w' := by
  have HP := Lib.hid hP
  have HS := Lib.hid hS
  clear hP hS
  have HPF := Lib.hid hps.2
  have HPL := Lib.hid hps.1
  clear hps
  have HSF := Lib.hid hss.2
  have HSL := Lib.hid hss.1
  clear hss
  have g1 : decide ((n : Int) < 1) = false := decide_eq_false (by omega)
  have g2 : decide (40 < (n : Int)) = false := decide_eq_false (by omega)
  have g3 : decide (z < 1) = false := decide_eq_false (by omega)
  have g4 : decide (1099511627776 < z) = false := decide_eq_false (by omega)
  go_enter Try.func6, Try.ntmps6
  go_wp2_with (go_at_call 19; (with_reducible refine (shareBegun _).mono ?_); rintro e w2 ⟨rfl, b2⟩; have B2 := Lib.hid b2; clear b2)
  go_loopw [9, 10] (fun v i wr => ∃ k : Nat, k ≤ n ∧ i = .int .i64 k ∧ Hid (Owns wr w2.heap.size v (List.replicate k z)) ∧ Hid (Below w2.heap.size w2 wr)) (fun _ i _ => n - (intOf i).toNat)
  case atStart => exact ⟨0, Nat.zero_le _, rfl, Owns.nil _ _, Below.refl _ _⟩
  case round =>
    obtain ⟨k, hk, rfl, HO, HB⟩ := hrel
    by_cases hlt : k < n
    · have HL : Hid ((List.replicate k z).length + 1 ≤ 1000000) := by unfold Hid; rw [List.length_replicate]; omega
      go_wp2_with (at_builtin; refine wp_append1 rfl (.tmp 37) (.tmp 39) rfl w2.heap.size _ _ z wr rfl HO.out rfl HL.out HB.out.size ?_; intro v' w' ho' hb'; have HO' := Lib.hid ho'; have HB' := Lib.hid hb'; clear ho' hb')
      go_roundw
      case rel => exact ⟨k + 1, by omega, by go_num, by unfold Hid; rw [← rep_snoc]; exact HO'.out, HB.out.trans HB'.out⟩
      case measure => simp [intOf]; omega
    · obtain rfl : k = n := by omega
      have ho := HO.out
      clear HO
      obtain ⟨a, cap2, hv, hrd⟩ := ho.reads
      rw [List.length_replicate] at hv
      rcases hrd.cell with ⟨he, _⟩ | ⟨_, b', off', cap', hv', hc'⟩
      · have := congrArg List.length he; simp at this; omega
      · rw [List.length_replicate] at hv'
        rw [hv] at hv'
        injection hv' with e1 e2 e3
        subst e1 e3 hv
        have CP := Lib.hid (HP.out _ _ _ _ hrd)
        have HRD := Lib.hid hrd
        have HW := Lib.hid (bel B2.out HB.out)
        clear hrd ho hc' HP
        go_wp2_with (first
          | (go_at_call 15; (with_reducible refine CP.out.mono ?_); rintro e w3 ⟨g3, rfl, r3, b3⟩; have R3 := Lib.hid r3; have K3 : Hid (Kpt wr w3) := b3; clear r3 b3; have CS := Lib.hid (HS.out _ _ _ _ (HRD.out.kpt K3.out)))
          | (go_at_call 16; (with_reducible refine CS.out.mono ?_); rintro e w4 ⟨g4, rfl, r4, b4⟩; have R4 := Lib.hid r4; have K4 : Hid (Kpt w3 w4) := b4; have R5 := Lib.hid (R3.out.on K4.out); clear r4 b4))
        have HK := Lib.hid (ktr (ktr HW.out K3.out) K4.out)
        go_loopw [15] (fun i wq => ∃ j : Nat, 1 ≤ j ∧ j ≤ k ∧ i = .int .i64 j ∧ ∃ q, wq = (w4).drewN q) (fun i _ => k - (intOf i).toNat)
        case atStart => exact ⟨1, Nat.le_refl _, hn, rfl, 0, rfl⟩
        case round =>
          obtain ⟨j, hj, hjk, rfl, q, rfl⟩ := hrel
          have HKq : Hid (Kpt w ((w4).drewN q)) := HK.out.drewN q
          by_cases hlt2 : j < k
          · obtain ⟨m, rfl⟩ : ∃ m, j = m + 1 := ⟨j - 1, by omega⟩
            have l1 : (m : Int) + 1 < (k : Int) := by omega
            have l2 : (m : Int) < (k : Int) := by omega
            have l3 : (0 : Int) < (k : Int) := by omega
            have xR : Row ((w4).drewN q) g3 ps := R5.out.block rfl
            have x1 := xR.cell (j := m + 1) (by rw [HPL.out]; exact hlt2)
            have x2 := xR.cell (j := m) (by rw [HPL.out]; omega)
            have x3 := xR.cell (j := 0) (by rw [HPL.out]; omega)
            have xf := HPF.out m hlt2
            clear xR
            generalize ps.getD (m + 1) 0 = xa at x1 xf
            generalize ps.getD m 0 = xb at x2 xf
            generalize ps.getD 0 0 = xc at x3 xf
            have xd : decide (xb < xa) = false := decide_eq_false (by omega)
            have xe : IntKind.i64.wrap (xc - xa) = xc - xa := IntWalk.i64_in _ (by omega)
            have xg : decide (1 < xc - xa) = false := decide_eq_false (by omega)
            clear xf
            have yR : Row ((w4).drewN q) g4 ss := R4.out.block rfl
            have y1 := yR.cell (j := m + 1) (by rw [HSL.out]; exact hlt2)
            have y2 := yR.cell (j := m) (by rw [HSL.out]; omega)
            have y3 := yR.cell (j := 0) (by rw [HSL.out]; omega)
            have yf := HSF.out m hlt2
            clear yR
            generalize ss.getD (m + 1) 0 = ya at y1 yf
            generalize ss.getD m 0 = yb at y2 yf
            generalize ss.getD 0 0 = yc at y3 yf
            have yd : decide (yb < ya) = false := decide_eq_false (by omega)
            have ye : IntKind.i64.wrap (yc - ya) = yc - ya := IntWalk.i64_in _ (by omega)
            have yg : decide (1 < yc - ya) = false := decide_eq_false (by omega)
            clear yf
            generalize hwz : (w4).drewN q = wz at *
            have HWZ := Lib.hid hwz
            clear hwz
            go_wp2
            go_quiet (fail)
            go_wp2
            go_quiet (fail)
            go_wp2
            case roundEnd => exact ⟨⟨m + 2, by omega, by omega, by go_num, _, by rw [← HWZ.out, World.drewN_drewN]⟩, by simp [intOf]; omega⟩
          · obtain rfl : j = k := by omega
            go_wp2
            go_ret
            exact ⟨rfl, HKq.out⟩

theorem shareEven_plain (T many kind z : Int) (w : World) :
    Calls Try.prog 6 #[.int .i64 T, .int .i64 many, .int .i64 kind, .int .i64 z] w fun r w' => r = .returned (.bool true) ∧ Below w.heap.size w w' := by
  by_cases ho : many < 1 ∨ 40 < many ∨ z < 1 ∨ 1099511627776 < z
  · exact shareEven_out T many kind z w ho
  · obtain ⟨n, rfl⟩ : ∃ n : Nat, many = n := ⟨many.toNat, by omega⟩
    have hE : wtsE (List.replicate n z) = 0 := rep_E (by omega) (by omega) (by omega) (by omega)
    have hl : (List.replicate n z).length = n := List.length_replicate
    have rng : (T < 0 ∨ 500 < T) → (∀ (b off cap : Nat) (W : World), Reads W (.slice (some ⟨b, off, none⟩) n cap) (List.replicate n z) → Calls Try.prog 16 #[.int .i64 T, .slice (some ⟨b, off, none⟩) n cap, .int .i64 kind] W fun e w' => e = .returned (.tuple #[.slice none 0 0, .int .i64 3]) ∧ W = w') := fun h b off cap W hr => seats_rng _ _ T kind W hr hE h
    by_cases hT : 0 ≤ T ∧ T ≤ 1152921504606846976
    · have hp : (∀ (b off cap : Nat) (W : World), Reads W (.slice (some ⟨b, off, none⟩) n cap) (List.replicate n z) → Calls Try.prog 15 #[.int .i64 T, .slice (some ⟨b, off, none⟩) n cap] W fun e w' => ∃ g, e = .returned (.tuple #[.slice (some ⟨g, 0, none⟩) n n, .int .i64 0]) ∧ Row w' g (pbs T (List.replicate n z)) ∧ Below W.heap.size W w') := fun b off cap W hr => by
        have h := parts_back b off cap (List.replicate n z) T hT.1 hT.2 W (by rw [hl]; exact hr) hE
        rw [hl] at h
        exact h
      have pf := pbs_flat (n := n) (z := z) hT.1 hE
      by_cases h5 : T ≤ 500
      · obtain ⟨t, rfl⟩ : ∃ t : Nat, T = t := ⟨T.toNat, by omega⟩
        by_cases k1 : kind = 1
        · subst k1
          obtain ⟨q, r, hq, hr, e⟩ := sts_lvl (dv := byOnes) (fun x y _ h => by unfold byOnes; omega) (show 0 < z by omega) (show 0 < n by omega) t
          refine shareEven_ps t 1 z n (by omega) (by omega) (by omega) (by omega) _ pf (lvl q r n) (lvl_flat q r n) hp (fun b off cap W hr => ?_) w
          have h := seats_ones b off cap (List.replicate n z) t (by omega) W (by rw [hl]; exact hr) hE
          rw [hl] at h
          refine h.mono ?_
          rintro e' w' ⟨g, rfl, _, h1, h2⟩
          rw [sts_len, hl]
          exact ⟨g, rfl, by rw [← e]; exact h1, h2.below⟩
        · by_cases k2 : kind = 2
          · subst k2
            obtain ⟨q, r, hq, hr, e⟩ := sts_lvl (dv := byOdds) (fun x y _ h => by unfold byOdds; omega) (show 0 < z by omega) (show 0 < n by omega) t
            refine shareEven_ps t 2 z n (by omega) (by omega) (by omega) (by omega) _ pf (lvl q r n) (lvl_flat q r n) hp (fun b off cap W hr => ?_) w
            have h := seats_odds b off cap (List.replicate n z) t (by omega) W (by rw [hl]; exact hr) hE
            rw [hl] at h
            refine h.mono ?_
            rintro e' w' ⟨g, rfl, _, h1, h2⟩
            rw [sts_len, hl]
            exact ⟨g, rfl, by rw [← e]; exact h1, h2.below⟩
          · exact shareEven_pn t kind z n (by omega) (by omega) (by omega) (by omega) _ pf 7 (by omega) hp (fun b off cap W hr => seats_kind _ _ t kind W hr hE (by omega) (by omega) k1 k2) w
      · exact shareEven_pn T kind z n (by omega) (by omega) (by omega) (by omega) _ pf 3 (by omega) hp (rng (by omega)) w
    · exact shareEven_nn T kind z n (by omega) (by omega) (by omega) (by omega) 3 (by omega) 3 (by omega) (fun b off cap W hr => parts_rng _ _ T W hr hE (by omega)) (rng (by omega)) w

end Go.Proofs.Yteooglpipggeoaa
