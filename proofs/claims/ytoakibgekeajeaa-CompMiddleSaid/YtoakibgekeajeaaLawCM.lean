/-
  CompMiddle: the law answers true.
-/
import Derived.Test.YtoakibgekeajeaaCompD
namespace Go.Proofs.Ytoakibgekeajeaa
open Go.RowKit
set_option linter.unusedVariables false

/-- how many are below, how many above -/
def belF (m : Int) (zs : List Int) : Int := (zs.countP (fun z => decide (z < m)) : Nat)
def aboF (m : Int) (zs : List Int) : Int := (zs.countP (fun z => decide (m < z)) : Nat)
def hasF (m : Int) (zs : List Int) : Bool := zs.any (fun z => decide (z = m))
theorem bel_s (m : Int) (zs : List Int) (z : Int) : belF m (zs ++ [z]) = belF m zs + if z < m then 1 else 0 := by
  unfold belF; rw [List.countP_append]; simp [List.countP_cons]; split <;> rfl
theorem abo_s (m : Int) (zs : List Int) (z : Int) : aboF m (zs ++ [z]) = aboF m zs + if m < z then 1 else 0 := by
  unfold aboF; rw [List.countP_append]; simp [List.countP_cons]; split <;> rfl
theorem has_s (m : Int) (zs : List Int) (z : Int) : hasF m (zs ++ [z]) = (hasF m zs || decide (z = m)) := by
  unfold hasF; simp
theorem bel_bd (m : Int) (zs : List Int) : 0 ≤ belF m zs ∧ belF m zs ≤ zs.length := by
  unfold belF; have := List.countP_le_length (p := fun z => decide (z < m)) (l := zs); omega
theorem abo_bd (m : Int) (zs : List Int) : 0 ≤ aboF m zs ∧ aboF m zs ≤ zs.length := by
  unfold aboF; have := List.countP_le_length (p := fun z => decide (m < z)) (l := zs); omega
theorem sorted_at {S : List Int} (h : S.Pairwise (· ≤ ·)) {i j : Nat} (hij : i ≤ j) (hj : j < S.length) : S.getD i 0 ≤ S.getD j 0 := by
  rw [List.getD_eq_getElem?_getD, List.getD_eq_getElem?_getD, List.getElem?_eq_getElem hj, List.getElem?_eq_getElem (show i < S.length by omega)]
  simp only [Option.getD_some]
  rcases Nat.lt_or_ge i j with g | g
  · exact List.pairwise_iff_getElem.1 h i j (by omega) hj g
  · obtain rfl : i = j := by omega
    exact Int.le_refl _
theorem count_0 {p : Int → Bool} {l : List Int} (h : ∀ z ∈ l, p z = false) : l.countP p = 0 := by
  rw [List.countP_eq_zero]
  intro z hz; rw [h z hz]; simp
/-- of a row in order: below its middle stand no more than half, and no more above -/
theorem mid_counts {zs : List Int} {k : Nat} (hk : k < zs.length) : belF ((srt zs).getD k 0) zs ≤ k ∧ aboF ((srt zs).getD k 0) zs ≤ (zs.length : Int) - 1 - k ∧ hasF ((srt zs).getD k 0) zs = true := by
  have hl := srt_len zs
  have hs := srt_sorted zs
  have hp := srt_perm zs
  have hk' : k < (srt zs).length := by omega
  refine ⟨?_, ?_, ?_⟩
  · unfold belF
    rw [← hp.countP_eq]
    have e : (srt zs).countP (fun z => decide (z < (srt zs).getD k 0)) = ((srt zs).take k).countP (fun z => decide (z < (srt zs).getD k 0)) + ((srt zs).drop k).countP (fun z => decide (z < (srt zs).getD k 0)) := by
      rw [← List.countP_append, List.take_append_drop]
    rw [e, count_0 (l := (srt zs).drop k)]
    · have := List.countP_le_length (p := fun z => decide (z < (srt zs).getD k 0)) (l := (srt zs).take k)
      rw [List.length_take] at this
      omega
    · intro z hz
      obtain ⟨j, hj, rfl⟩ := List.getElem_of_mem hz
      rw [List.length_drop] at hj
      have := sorted_at hs (i := k) (j := k + j) (by omega) (by omega)
      rw [List.getElem_drop]
      rw [List.getD_eq_getElem?_getD (i := k + j), List.getElem?_eq_getElem (show k + j < (srt zs).length by omega)] at this
      simp only [Option.getD_some] at this
      exact decide_eq_false (by omega)
  · unfold aboF
    rw [← hp.countP_eq]
    have e : (srt zs).countP (fun z => decide ((srt zs).getD k 0 < z)) = ((srt zs).take (k + 1)).countP (fun z => decide ((srt zs).getD k 0 < z)) + ((srt zs).drop (k + 1)).countP (fun z => decide ((srt zs).getD k 0 < z)) := by
      rw [← List.countP_append, List.take_append_drop]
    rw [e, count_0 (l := (srt zs).take (k + 1))]
    · have := List.countP_le_length (p := fun z => decide ((srt zs).getD k 0 < z)) (l := (srt zs).drop (k + 1))
      rw [List.length_drop] at this
      omega
    · intro z hz
      obtain ⟨j, hj, rfl⟩ := List.getElem_of_mem hz
      rw [List.length_take] at hj
      have := sorted_at hs (i := j) (j := k) (by omega) hk'
      rw [List.getElem_take]
      rw [List.getD_eq_getElem?_getD (i := j), List.getElem?_eq_getElem (show j < (srt zs).length by omega)] at this
      simp only [Option.getD_some] at this
      exact decide_eq_false (by omega)
  · unfold hasF
    refine List.any_eq_true.2 ⟨(srt zs).getD k 0, ?_, by simp⟩
    rw [← hp.mem_iff, List.getD_eq_getElem?_getD, List.getElem?_eq_getElem hk']
    exact List.getElem_mem hk'
/-- turned round by so many -/
def rotF (zs : List Int) (d : Nat) : List Int := (List.range zs.length).map fun i => zs.getD ((i + d) % zs.length) 0
theorem rot_len (zs : List Int) (d : Nat) : (rotF zs d).length = zs.length := by simp [rotF]
theorem rot_at {zs : List Int} {d k : Nat} (h : k < zs.length) : (rotF zs d).getD k 0 = zs.getD ((k + d) % zs.length) 0 := by
  simp [rotF, List.getD_eq_getElem?_getD, h]
theorem rot_perm {zs : List Int} {d : Nat} (h : d < zs.length) : (rotF zs d).Perm zs := by
  have e : rotF zs d = zs.drop d ++ zs.take d := by
    apply List.ext_getElem
    · rw [rot_len]; simp; omega
    · intro i h1 h2
      rw [rot_len] at h1
      have e1 : (rotF zs d)[i] = (rotF zs d).getD i 0 := by rw [List.getD_eq_getElem?_getD, List.getElem?_eq_getElem (by rw [rot_len]; exact h1)]; rfl
      rw [e1, rot_at h1]
      by_cases g : i < zs.length - d
      · rw [List.getElem_append_left (by simp; omega), List.getElem_drop, Nat.mod_eq_of_lt (by omega), List.getD_eq_getElem?_getD, List.getElem?_eq_getElem (by omega)]
        simp [Nat.add_comm]
      · rw [List.getElem_append_right (by simp; omega), List.getElem_take]
        have e2 : (i + d) % zs.length = i - (zs.length - d) := by
          rw [Nat.mod_eq_sub_mod (by omega), Nat.mod_eq_of_lt (by omega)]; omega
        rw [e2, List.getD_eq_getElem?_getD, List.getElem?_eq_getElem (by omega)]
        simp
  rw [e]
  exact List.perm_append_comm.trans (by rw [List.take_append_drop])
theorem srt_same {xs ys : List Int} (h : xs.Perm ys) : srt xs = srt ys := srt_is ((srt_perm ys).trans h.symm) (srt_sorted ys)
theorem mid_same {xs ys : List Int} (h : xs.Perm ys) (h0 : midE ys = 0) : midE xs = 0 ∧ midQ xs = midQ ys := by
  obtain ⟨h1, h2, h3, h4⟩ := mid_0 h0
  have hl := h.length_eq
  have hx : midE xs = 0 := by
    unfold midE
    rw [if_neg (by omega), if_neg (by omega), if_pos]
    exact List.all_eq_true.2 fun z hz => List.all_eq_true.1 h3 z (h.mem_iff.1 hz)
  refine ⟨hx, ?_⟩
  rw [(mid_0 hx).2.2.2, h4, srt_same h, hl]
/-- how far Go turns: what it reckons -/
theorem turn_is (by_ : Int) {n : Nat} (hn : 0 < n) : ∃ d : Nat, d < n ∧ (by_.tmod n + n).tmod n = d ∧ -(n : Int) < by_.tmod n ∧ by_.tmod n < n := by
  have h1 := Int.tmod_lt_of_pos by_ (show (0 : Int) < n by omega)
  have h2 : -(n : Int) < by_.tmod n := by
    rcases Int.lt_or_le by_ 0 with g | g
    · have := Int.tmod_lt_of_pos (-by_) (show (0 : Int) < n by omega)
      rw [Int.neg_tmod] at this; omega
    · have := Int.tmod_nonneg (n : Int) g; omega
  have h3 := Int.tmod_lt_of_pos (by_.tmod n + n) (show (0 : Int) < n by omega)
  have h4 : 0 ≤ (by_.tmod n + n).tmod n := Int.tmod_nonneg _ (by omega)
  exact ⟨((by_.tmod n + n).tmod n).toNat, by omega, by omega, h2, h1⟩

set_option maxRecDepth 100000 in
set_option maxHeartbeats 1000000 in
theorem cmid_no (v : Value) (zs : List Int) (b : Int) (w : World) (hr : Reads w v zs) (hE : midE zs ≠ 0) : Calls Try.prog 12 #[v, .int .i64 b] w fun r w' => r = .returned (.bool true) ∧ Kpt w w' := by
  have M := Lib.hid (middle_any v zs w hr)
  rw [(mid_no hE).1] at M
  have q1 : (midE zs != 0) = true := bne_iff_ne.2 hE
  clear hr hE
  generalize midE zs = E at *
  go_enter Try.func12, Try.ntmps12
  go_wp2_with (first
    | (go_at_call 33; (with_reducible refine M.out.mono ?_); rintro r w1 ⟨rfl, k1⟩; have K0 := Lib.hid k1; clear k1)
    | (go_at_call 39; (with_reducible refine (compBegun _).mono ?_); rintro r w1 ⟨rfl, k1⟩; have K0 := Lib.hid (ktr K0.out k1); clear k1))
  go_ret
  exact ⟨rfl, K0.out⟩

set_option maxRecDepth 100000 in
set_option maxHeartbeats 8000000 in
theorem cmid_ok (a : Option Addr) (cap : Nat) (zs : List Int) (b m : Int) (d : Nat) (t1 : Int) (w : World) (h0 : 0 < zs.length) (h40 : zs.length ≤ 40) (hr : Reads w (.slice a zs.length cap) zs) (hd : d < zs.length) (ht1 : b.tmod zs.length = t1) (hta : -(zs.length : Int) < t1) (htb : t1 < zs.length) (ht2 : (t1 + zs.length).tmod zs.length = d)
    (hB : 2 * belF m zs < zs.length) (hA : 2 * aboF m zs ≤ zs.length) (hH : hasF m zs = true) (hall : zs.all prcB = true) (hmb : 0 ≤ m ∧ m ≤ 1099511627776)
    (M0 : Calls Try.prog 33 #[.slice a zs.length cap] w fun e w' => e = .returned (.tuple #[.int .i64 m, .int .i64 0]) ∧ Kpt w w')
    (M1 : ∀ v w', Reads w' v (rotF zs d) → Calls Try.prog 33 #[v] w' fun e w'' => e = .returned (.tuple #[.int .i64 m, .int .i64 0]) ∧ Kpt w' w'') :
    Calls Try.prog 12 #[.slice a zs.length cap, .int .i64 b] w fun r w' => r = .returned (.bool true) ∧ Kpt w w' := by
  have M := Lib.hid M0
  have N := Lib.hid M1
  have HR := Lib.hid hr.sl
  have HB := Lib.hid hB
  have HA := Lib.hid hA
  have HH := Lib.hid hH
  have HAL : Hid (∀ k : Nat, k < zs.length → 0 ≤ zs.getD k 0 ∧ zs.getD k 0 ≤ 1099511627776) := fun k hk => prc_t (all_upto hall hk)
  have BB := Lib.hid (fun k => bel_bd m (zs.take k))
  have AB := Lib.hid (fun k => abo_bd m (zs.take k))
  have HT : Hid (zs.take zs.length = zs) := List.take_length
  have RT : Hid ((rotF zs d).take zs.length = rotF zs d) := List.take_of_length_le (by rw [rot_len]; exact Nat.le_refl _)
  have RL := Lib.hid (rot_len zs d)
  have RA : Hid (∀ k, k < zs.length → (rotF zs d).take (k + 1) = (rotF zs d).take k ++ [zs.getD ((k + d) % zs.length) 0]) := fun k hk => by
    rw [take_snoc (by rw [rot_len]; exact hk), rot_at hk]
  have TS : Hid (∀ k, k < zs.length → zs.take (k + 1) = zs.take k ++ [zs.getD k 0]) := fun k hk => take_snoc hk
  have ML : Hid (∀ k, (k + d) % zs.length < zs.length) := fun k => Nat.mod_lt _ h0
  obtain ⟨mb0, mb1⟩ := hmb
  have n0 : (0 : Int) < zs.length := by omega
  have nz : ((zs.length : Int) == 0) = false := beq_eq_false_iff_ne.2 (by omega)
  have T1 := Lib.hid ht1
  have T2 := Lib.hid ht2
  clear M0 M1 hr hB hA hH hall ht1 ht2
  go_enter Try.func12, Try.ntmps12
  go_wp2_with (first
    | (go_at_call 33; (with_reducible refine M.out.mono ?_); rintro r w1 ⟨rfl, k1⟩; have K0 := Lib.hid k1; clear k1)
    | (go_at_call 39; (with_reducible refine (compBegun _).mono ?_); rintro r w2 ⟨rfl, k1⟩; have K1 := Lib.hid (ktr K0.out k1); clear k1))
  have J0 : Hid (Kpt w2 w2) := Kpt.refl w2
  have O0 : Hid (Owns w2 w2.heap.size (.slice none 0 0) []) := Owns.nil w2 _
  go_loopw [7, 8, 9, 10, 12] (fun vb va vh vt vi wr => ∃ (k : Nat) (x y : Int) (t : Bool), k ≤ zs.length ∧ vi = .int .i64 k ∧ vb = .int .i64 x ∧ va = .int .i64 y ∧ vh = .bool t ∧ Hid (x = belF m (zs.take k) ∧ y = aboF m (zs.take k) ∧ t = hasF m (zs.take k)) ∧ Hid (Owns wr w2.heap.size vt ((rotF zs d).take k)) ∧ Hid (Kpt w2 wr)) (fun _ _ _ _ vi _ => zs.length - (intOf vi).toNat)
  case atStart => exact ⟨0, 0, 0, false, Nat.zero_le _, rfl, rfl, rfl, rfl, ⟨rfl, rfl, rfl⟩, by unfold Hid; rw [List.take_zero]; exact O0.out, J0.out⟩
  case round =>
    obtain ⟨k, x, y, t, hk, rfl, rfl, rfl, rfl, HS, HO, HJ⟩ := hrel
    have bx := BB.out k
    have by' := AB.out k
    rw [← HS.out.1] at bx
    rw [← HS.out.2.1] at by'
    rw [List.length_take] at bx by'
    have bx1 : x ≤ 40 := by omega
    have by1 : y ≤ 40 := by omega
    obtain ⟨bx0, -⟩ := bx
    obtain ⟨by0, -⟩ := by'
    by_cases hlt : k < zs.length
    · obtain ⟨xb, xo, rfl, cx⟩ := HR.out k hlt
      obtain ⟨yb, yo, ey, cy⟩ := HR.out ((k + d) % zs.length) (ML.out k)
      injection ey with ey
      injection ey with e1 e2 _
      subst e1 e2
      have KW := Lib.hid (ktr K1.out HJ.out)
      have c1 := KW.out.cell cx
      have c2 := KW.out.cell cy
      have hz := HAL.out k hlt
      have ts := TS.out k hlt
      have HM := Lib.hid (RA.out k hlt)
      have ml := ML.out k
      obtain ⟨q, hq⟩ : ∃ q, (k + d) % zs.length = q := ⟨_, rfl⟩
      have hq2 : ((k : Int) + d).tmod zs.length = q := by
        rw [Int.tmod_eq_emod_of_nonneg (by omega)]
        have : ((k : Int) + d) % (zs.length : Int) = (((k + d) % zs.length : Nat) : Int) := by simp
        rw [this, hq]
      rw [hq] at c2 HM ml
      have HL : Hid (((rotF zs d).take k).length + 1 ≤ 1000000) := by unfold Hid; rw [List.length_take]; omega
      clear cx cy hq
      have HBE := Lib.hid (bel_s m (zs.take k) (zs.getD k 0))
      have HAB := Lib.hid (abo_s m (zs.take k) (zs.getD k 0))
      have HHA := Lib.hid (has_s m (zs.take k) (zs.getD k 0))
      rw [← ts] at HBE HAB HHA
      clear ts
      generalize zs.getD k 0 = z at *
      generalize zs.getD q 0 = r at *
      have k0 : (0 : Int) ≤ (k : Int) := by omega
      have k1 : (k : Int) < zs.length := by omega
      have q0 : (0 : Int) ≤ (q : Int) := by omega
      have q1 : (q : Int) < zs.length := by omega
      have u1 : IntKind.i64.wrap t1 = t1 := IntWalk.i64_in _ (by omega)
      have u2 : IntKind.i64.wrap (t1 + zs.length) = t1 + zs.length := IntWalk.i64_in _ (by omega)
      have u3 : IntKind.i64.wrap ((k : Int) + d) = (k : Int) + d := IntWalk.i64_in _ (by omega)
      have u4 := T1.out
      have u5 := T2.out
      obtain ⟨z0, z1⟩ := hz
      rcases Int.lt_trichotomy z m with hzm | hzm | hzm
      · have d1 : decide (z < m) = true := decide_eq_true hzm
        have d2 : decide (m < z) = false := decide_eq_false (by omega)
        have d3 : (z == m) = false := beq_eq_false_iff_ne.2 (by omega)
        cases t with
        | true =>
          have E1 : Hid (x + 1 = belF m (zs.take (k + 1))) := by unfold Hid; rw [HBE.out, HS.out.1, if_pos hzm]
          have E2 : Hid (y = aboF m (zs.take (k + 1))) := by unfold Hid; rw [HAB.out, HS.out.2.1, if_neg (by omega), Int.add_zero]
          have E3 : Hid (true = hasF m (zs.take (k + 1))) := by unfold Hid; rw [HHA.out, ← HS.out.2.2]; simp <;> omega
          have E4 : Hid (Hid True) := trivial
          clear hzm
          go_wp2_with (at_builtin; refine wp_append1 rfl (.tmp 58) (.tmp 73) rfl w2.heap.size _ _ r wr rfl HO.out rfl HL.out HJ.out.size ?_; intro v' w' ho' hb'; have HO' := Lib.hid ho'; have HJ' : Hid (Kpt w2 w') := HJ.out.trans hb'; clear ho' hb')
          go_roundw
          case rel => exact ⟨k + 1, _, _, _, by omega, by go_num, rfl, rfl, rfl, ⟨E1.out, E2.out, E3.out⟩, by unfold Hid; rw [HM.out]; exact HO'.out, HJ'.out⟩
          case measure => simp [intOf]; omega
        | false =>
          have E1 : Hid (x + 1 = belF m (zs.take (k + 1))) := by unfold Hid; rw [HBE.out, HS.out.1, if_pos hzm]
          have E2 : Hid (y = aboF m (zs.take (k + 1))) := by unfold Hid; rw [HAB.out, HS.out.2.1, if_neg (by omega), Int.add_zero]
          have E3 : Hid (false = hasF m (zs.take (k + 1))) := by unfold Hid; rw [HHA.out, ← HS.out.2.2]; simp <;> omega
          have E4 : Hid (Hid True) := trivial
          clear hzm
          go_wp2_with (at_builtin; refine wp_append1 rfl (.tmp 58) (.tmp 73) rfl w2.heap.size _ _ r wr rfl HO.out rfl HL.out HJ.out.size ?_; intro v' w' ho' hb'; have HO' := Lib.hid ho'; have HJ' : Hid (Kpt w2 w') := HJ.out.trans hb'; clear ho' hb')
          go_roundw
          case rel => exact ⟨k + 1, _, _, _, by omega, by go_num, rfl, rfl, rfl, ⟨E1.out, E2.out, E3.out⟩, by unfold Hid; rw [HM.out]; exact HO'.out, HJ'.out⟩
          case measure => simp [intOf]; omega
      · have d1 : decide (z < m) = false := decide_eq_false (by omega)
        have d2 : decide (m < z) = false := decide_eq_false (by omega)
        have d3 : (z == m) = true := beq_iff_eq.2 hzm
        cases t with
        | true =>
          have E1 : Hid (x = belF m (zs.take (k + 1))) := by unfold Hid; rw [HBE.out, HS.out.1, if_neg (by omega), Int.add_zero]
          have E2 : Hid (y = aboF m (zs.take (k + 1))) := by unfold Hid; rw [HAB.out, HS.out.2.1, if_neg (by omega), Int.add_zero]
          have E3 : Hid (true = hasF m (zs.take (k + 1))) := by unfold Hid; rw [HHA.out, ← HS.out.2.2]; simp <;> omega
          have E4 : Hid (Hid True) := trivial
          clear hzm
          go_wp2_with (at_builtin; refine wp_append1 rfl (.tmp 58) (.tmp 73) rfl w2.heap.size _ _ r wr rfl HO.out rfl HL.out HJ.out.size ?_; intro v' w' ho' hb'; have HO' := Lib.hid ho'; have HJ' : Hid (Kpt w2 w') := HJ.out.trans hb'; clear ho' hb')
          go_roundw
          case rel => exact ⟨k + 1, _, _, _, by omega, by go_num, rfl, rfl, rfl, ⟨E1.out, E2.out, E3.out⟩, by unfold Hid; rw [HM.out]; exact HO'.out, HJ'.out⟩
          case measure => simp [intOf]; omega
        | false =>
          have E1 : Hid (x = belF m (zs.take (k + 1))) := by unfold Hid; rw [HBE.out, HS.out.1, if_neg (by omega), Int.add_zero]
          have E2 : Hid (y = aboF m (zs.take (k + 1))) := by unfold Hid; rw [HAB.out, HS.out.2.1, if_neg (by omega), Int.add_zero]
          have E3 : Hid (true = hasF m (zs.take (k + 1))) := by unfold Hid; rw [HHA.out, ← HS.out.2.2]; simp <;> omega
          have E4 : Hid (Hid True) := trivial
          clear hzm
          go_wp2_with (at_builtin; refine wp_append1 rfl (.tmp 58) (.tmp 73) rfl w2.heap.size _ _ r wr rfl HO.out rfl HL.out HJ.out.size ?_; intro v' w' ho' hb'; have HO' := Lib.hid ho'; have HJ' : Hid (Kpt w2 w') := HJ.out.trans hb'; clear ho' hb')
          go_roundw
          case rel => exact ⟨k + 1, _, _, _, by omega, by go_num, rfl, rfl, rfl, ⟨E1.out, E2.out, E3.out⟩, by unfold Hid; rw [HM.out]; exact HO'.out, HJ'.out⟩
          case measure => simp [intOf]; omega
      · have d1 : decide (z < m) = false := decide_eq_false (by omega)
        have d2 : decide (m < z) = true := decide_eq_true hzm
        have d3 : (z == m) = false := beq_eq_false_iff_ne.2 (by omega)
        cases t with
        | true =>
          have E1 : Hid (x = belF m (zs.take (k + 1))) := by unfold Hid; rw [HBE.out, HS.out.1, if_neg (by omega), Int.add_zero]
          have E2 : Hid (y + 1 = aboF m (zs.take (k + 1))) := by unfold Hid; rw [HAB.out, HS.out.2.1, if_pos hzm]
          have E3 : Hid (true = hasF m (zs.take (k + 1))) := by unfold Hid; rw [HHA.out, ← HS.out.2.2]; simp <;> omega
          have E4 : Hid (Hid True) := trivial
          clear hzm
          go_wp2_with (at_builtin; refine wp_append1 rfl (.tmp 58) (.tmp 73) rfl w2.heap.size _ _ r wr rfl HO.out rfl HL.out HJ.out.size ?_; intro v' w' ho' hb'; have HO' := Lib.hid ho'; have HJ' : Hid (Kpt w2 w') := HJ.out.trans hb'; clear ho' hb')
          go_roundw
          case rel => exact ⟨k + 1, _, _, _, by omega, by go_num, rfl, rfl, rfl, ⟨E1.out, E2.out, E3.out⟩, by unfold Hid; rw [HM.out]; exact HO'.out, HJ'.out⟩
          case measure => simp [intOf]; omega
        | false =>
          have E1 : Hid (x = belF m (zs.take (k + 1))) := by unfold Hid; rw [HBE.out, HS.out.1, if_neg (by omega), Int.add_zero]
          have E2 : Hid (y + 1 = aboF m (zs.take (k + 1))) := by unfold Hid; rw [HAB.out, HS.out.2.1, if_pos hzm]
          have E3 : Hid (false = hasF m (zs.take (k + 1))) := by unfold Hid; rw [HHA.out, ← HS.out.2.2]; simp <;> omega
          have E4 : Hid (Hid True) := trivial
          clear hzm
          go_wp2_with (at_builtin; refine wp_append1 rfl (.tmp 58) (.tmp 73) rfl w2.heap.size _ _ r wr rfl HO.out rfl HL.out HJ.out.size ?_; intro v' w' ho' hb'; have HO' := Lib.hid ho'; have HJ' : Hid (Kpt w2 w') := HJ.out.trans hb'; clear ho' hb')
          go_roundw
          case rel => exact ⟨k + 1, _, _, _, by omega, by go_num, rfl, rfl, rfl, ⟨E1.out, E2.out, E3.out⟩, by unfold Hid; rw [HM.out]; exact HO'.out, HJ'.out⟩
          case measure => simp [intOf]; omega
    · obtain rfl : k = zs.length := by omega
      have hs := HS.out
      rw [HT.out] at hs
      have ho := HO.out
      rw [RT.out] at ho
      obtain ⟨oa, oc, rfl, ro⟩ := ho.reads
      rw [RL.out] at ro
      have NN := Lib.hid (N.out _ _ ro)
      have hb := HB.out
      have ha := HA.out
      rw [← hs.1] at hb
      rw [← hs.2.1] at ha
      obtain rfl : t = true := by rw [hs.2.2]; exact HH.out
      have KW := Lib.hid (ktr K1.out HJ.out)
      have d1 : decide (2 * x < (zs.length : Int)) = true := decide_eq_true hb
      have d2 : decide (2 * y ≤ (zs.length : Int)) = true := decide_eq_true ha
      have RLL := RL.out
      clear hs ho ro hb ha HO
      rw [RLL]
      clear RLL
      go_wp2_with (go_at_call 33; (with_reducible refine NN.out.mono ?_); rintro r w4 ⟨rfl, k1⟩; have K4 := Lib.hid (ktr KW.out k1); clear k1)
      go_ret
      exact ⟨rfl, K4.out⟩

theorem cmid_plain (v : Value) (b : Int) (zs : List Int) (w : World) (hr : Reads w v zs) : Calls Try.prog 12 #[v, .int .i64 b] w fun r w' => r = .returned (.bool true) ∧ Kpt w w' := by
  by_cases hE : midE zs = 0
  · obtain ⟨h0, h40, hall, hq⟩ := mid_0 hE
    obtain ⟨a, cap, rfl, -, -⟩ := id hr
    obtain ⟨d, hd, h2, h3, h4⟩ := turn_is b h0
    have hk : (zs.length - 1) / 2 < zs.length := by omega
    obtain ⟨c1, c2, c3⟩ := mid_counts (zs := zs) hk
    rw [← hq] at c1 c2 c3
    have hmem : midQ zs ∈ zs := by
      rw [hq, ← (srt_perm zs).mem_iff, List.getD_eq_getElem?_getD, List.getElem?_eq_getElem (by rw [srt_len]; exact hk)]
      exact List.getElem_mem _
    have hmb := prc_t (List.all_eq_true.1 hall _ hmem)
    have hp := rot_perm hd
    refine cmid_ok a cap zs b (midQ zs) d _ w h0 h40 hr hd rfl h3 h4 h2 (by omega) (by omega) c3 hall hmb ?_ fun v w' r => ?_
    · have := middle_any _ zs w hr
      rwa [hE] at this
    · have := middle_any v _ w' r
      rwa [(mid_same hp hE).1, (mid_same hp hE).2] at this
  · exact cmid_no v zs b w hr hE

end Go.Proofs.Ytoakibgekeajeaa
