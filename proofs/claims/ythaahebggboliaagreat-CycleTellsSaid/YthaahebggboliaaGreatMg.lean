/-
  Merged: GridMath, GridA, Amounts, NetS.
-/
import Derived.Test.YthaahebggboliaaGreatMd
import Derived.Test.YthaahebggboliaaGreatTrip
import Derived.Test.YthaahebggboliaaGreatMb1
import Derived.Test.YthaahebggboliaaGreatRow
import Derived.Test.YthaahebggboliaaGreatMb2
import Derived.Deep.RegionWith
import Derived.Deep.RegionHeld3
import Derived.Deep.RegionLaw
import Derived.Deep.Cut
import Derived.Deep.CutRange
import Derived.Deep.DeepCutAuto
-- GridMath
namespace Go.Proofs.YthaahebggboliaaGreat

/-- may a due stand there, its parties apart? -/
def dueB (p : Int × Int × Int) : Bool := decide (0 ≤ p.1 ∧ p.1 ≤ 30 ∧ 0 ≤ p.2.1 ∧ p.2.1 ≤ 30 ∧ 1 ≤ p.2.2 ∧ p.2.2 ≤ 1152921504606846976)
theorem due_t {p : Int × Int × Int} (h : dueB p = true) : 0 ≤ p.1 ∧ p.1 ≤ 30 ∧ 0 ≤ p.2.1 ∧ p.2.1 ≤ 30 ∧ 1 ≤ p.2.2 ∧ p.2.2 ≤ 1152921504606846976 := of_decide_eq_true h
theorem due_f {p : Int × Int × Int} (h : dueB p = false) : ¬ (0 ≤ p.1 ∧ p.1 ≤ 30 ∧ 0 ≤ p.2.1 ∧ p.2.1 ≤ 30 ∧ 1 ≤ p.2.2 ∧ p.2.2 ≤ 1152921504606846976) := of_decide_eq_false h
/-- the error of the first due that stands wrong -/
def dueE : List (Int × Int × Int) → Int
  | [] => 0
  | p :: l => if dueB p then (if p.1 = p.2.1 then 1 else dueE l) else 3
def netE (l : List (Int × Int × Int)) : Int := if 60 < l.length then 2 else dueE l
/-- a due between two parties -/
def dueO (p : Int × Int × Int) : Prop := dueB p = true ∧ p.1 ≠ p.2.1
theorem due_0 {l : List (Int × Int × Int)} (h : dueE l = 0) : ∀ p ∈ l, dueO p := by
  induction l with
  | nil => simp
  | cons p l ih =>
    unfold dueE at h
    split at h
    · next h1 =>
      split at h
      · omega
      · next h2 =>
        intro q hq
        rcases List.mem_cons.1 hq with rfl | hq
        · exact ⟨h1, h2⟩
        · exact ih h q hq
    · omega
theorem due_mk {l : List (Int × Int × Int)} (h : ∀ p ∈ l, dueO p) : dueE l = 0 := by
  induction l with
  | nil => rfl
  | cons p l ih =>
    have h1 := h p (by simp)
    unfold dueE
    rw [if_pos h1.1, if_neg h1.2]
    exact ih fun q hq => h q (by simp [hq])
theorem net_0 {l : List (Int × Int × Int)} (h : netE l = 0) : l.length ≤ 60 ∧ ∀ p ∈ l, dueO p := by
  unfold netE at h
  split at h
  · omega
  · exact ⟨by omega, due_0 h⟩
/-- all that is due -/
def duesS : List (Int × Int × Int) → Int
  | [] => 0
  | p :: l => p.2.2 + duesS l
theorem duesS_append (l m : List (Int × Int × Int)) : duesS (l ++ m) = duesS l + duesS m := by
  induction l with
  | nil => simp [duesS]
  | cons p l ih => simp only [List.cons_append, duesS, ih]; omega
theorem duesS_bd {l : List (Int × Int × Int)} (h : ∀ p ∈ l, dueO p) : 0 ≤ duesS l ∧ duesS l ≤ 1152921504606846976 * (l.length : Int) := by
  induction l with
  | nil => simp [duesS]
  | cons p l ih =>
    have h1 := ih fun q hq => h q (by simp [hq])
    have h2 := due_t (h p (by simp)).1
    rw [duesS, List.length_cons]; omega
/-- may a party have so much? -/
def hasB (n : Int) : Bool := decide (0 ≤ n ∧ n ≤ 1152921504606846976)
theorem has_t {n : Int} (h : hasB n = true) : 0 ≤ n ∧ n ≤ 1152921504606846976 := of_decide_eq_true h
theorem has_f {n : Int} (h : hasB n = false) : ¬ (0 ≤ n ∧ n ≤ 1152921504606846976) := of_decide_eq_false h
/-- the error of what all have, and of what is due -/
def gridE (has : List Int) (l : List (Int × Int × Int)) : Int :=
  if has.length ≠ 31 then 1 else if has.all hasB then (if netE l ≠ 0 then netE l else if amtB (has.sum + duesS l) then 0 else 8) else 3
theorem grid_0 {has : List Int} {l : List (Int × Int × Int)} (h : gridE has l = 0) : has.length = 31 ∧ (∀ n ∈ has, hasB n = true) ∧ l.length ≤ 60 ∧ (∀ p ∈ l, dueO p) ∧ amtB (has.sum + duesS l) = true := by
  unfold gridE at h
  split at h
  · omega
  · next h0 =>
    split at h
    · next h1 =>
      split at h
      · next h2 => exact absurd h h2
      · next h2 =>
        split at h
        · next h3 =>
          have h4 := net_0 (Classical.not_not.1 h2)
          exact ⟨Classical.not_not.1 h0, List.all_eq_true.1 h1, h4.1, h4.2, h3⟩
        · omega
    · omega

/-- what becomes of what parties have when a due is settled -/
def pay (has : List Int) (p : Int × Int × Int) : List Int := (has.set p.1.toNat (has.getD p.1.toNat 0 - p.2.2)).set p.2.1.toNat ((has.set p.1.toNat (has.getD p.1.toNat 0 - p.2.2)).getD p.2.1.toNat 0 + p.2.2)
/-- what one due brings a party -/
def flow (p : Int × Int × Int) (q : Nat) : Int := (if p.2.1 = (q : Int) then p.2.2 else 0) - (if p.1 = (q : Int) then p.2.2 else 0)
theorem pay_len (has : List Int) (p : Int × Int × Int) : (pay has p).length = has.length := by simp [pay]
theorem pay_at {has : List Int} {p : Int × Int × Int} (h : dueO p) (hn : has.length = 31) (q : Nat) (hq : q < 31) : (pay has p).getD q 0 = has.getD q 0 + flow p q := by
  have hb := due_t h.1
  have hne := h.2
  obtain ⟨f, hf⟩ : ∃ f : Nat, p.1 = (f : Int) := ⟨p.1.toNat, by omega⟩
  obtain ⟨t, ht⟩ : ∃ t : Nat, p.2.1 = (t : Int) := ⟨p.2.1.toNat, by omega⟩
  unfold pay flow
  rw [hf, ht, Int.toNat_natCast, Int.toNat_natCast]
  simp only [List.getD_eq_getElem?_getD, List.getElem?_set]
  have hft : ¬ f = t := by omega
  by_cases h1 : t = q
  · subst h1
    rw [if_pos rfl, if_pos (by simp; omega), if_neg hft, if_pos rfl, if_neg (by omega)]
    simp only [Option.getD_some]
    omega
  · rw [if_neg h1]
    by_cases h2 : f = q
    · subst h2
      rw [if_pos rfl, if_pos (by omega), if_neg (by omega), if_pos rfl]
      simp only [Option.getD_some]
      omega
    · rw [if_neg h2, if_neg (by omega), if_neg (by omega)]
      omega
/-- what all have when these dues are settled -/
def settleF (l : List (Int × Int × Int)) : List Int → List Nat → List Int
  | has, [] => has
  | has, i :: d => settleF l (pay has (l.getD i default)) d
theorem settle_len (l : List (Int × Int × Int)) (d : List Nat) (has : List Int) : (settleF l has d).length = has.length := by
  induction d generalizing has with
  | nil => rfl
  | cons i d ih => rw [settleF, ih, pay_len]
/-- what these dues bring a party -/
def flows (l : List (Int × Int × Int)) (q : Nat) : List Nat → Int
  | [] => 0
  | i :: d => flow (l.getD i default) q + flows l q d
theorem settle_at {l : List (Int × Int × Int)} (hl : ∀ p ∈ l, dueO p) (d : List Nat) (hd : ∀ i ∈ d, i < l.length) (has : List Int) (hn : has.length = 31) (q : Nat) (hq : q < 31) : (settleF l has d).getD q 0 = has.getD q 0 + flows l q d := by
  induction d generalizing has with
  | nil => simp [settleF, flows]
  | cons i d ih =>
    have hi := hd i (by simp)
    have hm : l.getD i default ∈ l := by rw [List.getD_eq_getElem?_getD, List.getElem?_eq_getElem hi]; simp
    rw [settleF, ih (fun j hj => hd j (by simp [hj])) (pay has (l.getD i default)) (by rw [pay_len]; exact hn), pay_at (hl _ hm) hn q hq, flows]
    omega
theorem settle_snoc (l : List (Int × Int × Int)) (d : List Nat) (i : Nat) (has : List Int) : settleF l has (d ++ [i]) = pay (settleF l has d) (l.getD i default) := by
  induction d generalizing has with
  | nil => rfl
  | cons j d ih => rw [List.cons_append, settleF, ih]; rfl

end Go.Proofs.YthaahebggboliaaGreat

-- GridA
namespace Go.Proofs.YthaahebggboliaaGreat
open Go.RowKit
set_option linter.unusedVariables false

theorem party_t (n : Int) (w : World) (h0 : 0 ≤ n) (h1 : n ≤ 30) : Calls Tryz.prog 181 #[.int .i64 n] w fun e w' => e = .returned (.bool true) ∧ w = w' := by
  go_enter Tryz.func181, Tryz.ntmps181
  go_wp2
  go_ret
  exact ⟨rfl, rfl⟩
theorem party_f (n : Int) (w : World) (h : ¬ (0 ≤ n ∧ n ≤ 30)) : Calls Tryz.prog 181 #[.int .i64 n] w fun e w' => e = .returned (.bool false) ∧ w = w' := by
  by_cases h0 : 0 ≤ n
  · have h1 : decide (n ≤ 30) = false := decide_eq_false (by omega)
    clear h
    go_enter Tryz.func181, Tryz.ntmps181
    go_wp2
    go_ret
    exact ⟨rfl, rfl⟩
  · have h1 : decide (0 ≤ n) = false := decide_eq_false h0
    clear h
    go_enter Tryz.func181, Tryz.ntmps181
    go_wp2
    go_ret
    exact ⟨rfl, rfl⟩

theorem netCheck_many (a : Option Addr) (n cap : Nat) (hn : 60 < n) (hb : n ≤ maxLen) (w : World) : Calls Tryz.prog 172 #[.slice a n cap] w fun e w' => e = .returned (.int .i64 2) ∧ Grew w w' := by
  unfold maxLen at hb
  have h1 : (60 : Int) < (n : Int) := by omega
  go_enter Tryz.func172, Tryz.ntmps172
  go_wp2
  go_ret
  exact ⟨rfl, Grew.refl _⟩
theorem due_drop {l : List (Int × Int × Int)} {k : Nat} (hk : k < l.length) : l.drop k = l.getD k default :: l.drop (k + 1) := by
  rw [List.drop_eq_getElem_cons hk, List.getD_eq_getElem?_getD, List.getElem?_eq_getElem hk]; rfl
theorem due_ok {p : Int × Int × Int} {l : List (Int × Int × Int)} (h : dueB p = true) (h2 : ¬ p.1 = p.2.1) : dueE (p :: l) = dueE l := by rw [dueE, if_pos h, if_neg h2]
theorem due_self {p : Int × Int × Int} {l : List (Int × Int × Int)} (h : dueB p = true) (h2 : p.1 = p.2.1) : dueE (p :: l) = 1 := by rw [dueE, if_pos h, if_pos h2]
theorem due_no {p : Int × Int × Int} {l : List (Int × Int × Int)} (h : dueB p = false) : dueE (p :: l) = 3 := by rw [dueE, h]; rfl

set_option maxHeartbeats 4000000 in
theorem netCheck_few (a : Option Addr) (cap : Nat) (ps : List (Int × Int × Int)) (w : World) (hm : ps.length ≤ 60) (hc : ∀ j, j < ps.length → ∃ b off, a = some ⟨b, off, none⟩ ∧ PtAt w b (off + j * 3) (ps.getD j default)) :
    Calls Tryz.prog 172 #[.slice a ps.length cap] w fun e w' => e = .returned (.int .i64 (dueE ps)) ∧ Grew w w' := by
  have HC := Lib.hid hc; clear hc
  go_enter Tryz.func172, Tryz.ntmps172
  go_wp2
  go_loopw [10] (fun i wr => ∃ k : Nat, k ≤ ps.length ∧ i = .int .i64 k ∧ Hid (dueE ps = dueE (ps.drop k)) ∧ Hid (Grew w wr)) (fun i _ => ps.length - (intOf i).toNat)
  case atStart => exact ⟨0, Nat.zero_le _, rfl, rfl, Grew.refl _⟩
  case round =>
    obtain ⟨k, hk, rfl, HE, HG⟩ := hrel
    by_cases hlt : k < ps.length
    · obtain ⟨x, off, rfl, hp⟩ := HC.out k hlt
      obtain ⟨c0, c1, c2⟩ := hp.grew HG.out
      have hd := due_drop hlt
      generalize ps.getD k default = p at c0 c1 c2 hd
      have HD : Hid (dueE ps = dueE (p :: ps.drop (k + 1))) := by unfold Hid; rw [HE.out, hd]
      clear hd hp
      obtain ⟨F, T, A⟩ := p
      simp only at c0 c1 c2
      cases hB : dueB (F, T, A) with
      | true =>
        have hb := due_t hB
        simp only at hb
        obtain ⟨f0, f1, t0, t1, a0, a1⟩ := hb
        by_cases hs : F = T
        · have HX : Hid (dueE ps = 1) := by unfold Hid; rw [HD.out, due_self hB hs]
          have q : (F == T) = true := beq_iff_eq.2 hs
          clear hB hs
          go_wp2_with (first
            | (go_at_call 181; (with_reducible refine (party_t _ _ f0 f1).mono ?_); rintro e w' ⟨rfl, rfl⟩)
            | (go_at_call 181; (with_reducible refine (party_t _ _ t0 t1).mono ?_); rintro e w' ⟨rfl, rfl⟩))
          go_ret
          exact ⟨ret_int HX.out.symm, HG.out.alloc _ _⟩
        · have HX : Hid (dueE ps = dueE (ps.drop (k + 1))) := by unfold Hid; rw [HD.out, due_ok hB hs]
          have q : (F == T) = false := beq_eq_false_iff_ne.2 hs
          clear hB hs
          go_wp2_with (first
            | (go_at_call 181; (with_reducible refine (party_t _ _ f0 f1).mono ?_); rintro e w' ⟨rfl, rfl⟩)
            | (go_at_call 181; (with_reducible refine (party_t _ _ t0 t1).mono ?_); rintro e w' ⟨rfl, rfl⟩))
          go_roundw
          case rel => exact ⟨k + 1, by omega, by go_num, HX.out, HG.out.alloc _ _⟩
          case measure => simp [intOf]; omega
      | false =>
        have hb := due_f hB
        simp only at hb
        have HX : Hid (dueE ps = 3) := by unfold Hid; rw [HD.out, due_no hB]
        clear hB
        by_cases hf : 0 ≤ F ∧ F ≤ 30
        · obtain ⟨f0, f1⟩ := hf
          by_cases ht : 0 ≤ T ∧ T ≤ 30
          · obtain ⟨t0, t1⟩ := ht
            by_cases ha : A < 1
            · clear hb
              go_wp2_with (first
                | (go_at_call 181; (with_reducible refine (party_t _ _ f0 f1).mono ?_); rintro e w' ⟨rfl, rfl⟩)
                | (go_at_call 181; (with_reducible refine (party_t _ _ t0 t1).mono ?_); rintro e w' ⟨rfl, rfl⟩))
              go_ret
              exact ⟨ret_int HX.out.symm, HG.out.alloc _ _⟩
            · have ha' : decide (A < 1) = false := decide_eq_false ha
              have hz : 1152921504606846976 < A := by omega
              clear hb
              go_wp2_with (first
                | (go_at_call 181; (with_reducible refine (party_t _ _ f0 f1).mono ?_); rintro e w' ⟨rfl, rfl⟩)
                | (go_at_call 181; (with_reducible refine (party_t _ _ t0 t1).mono ?_); rintro e w' ⟨rfl, rfl⟩))
              go_ret
              exact ⟨ret_int HX.out.symm, HG.out.alloc _ _⟩
          · have HT := Lib.hid (fun w => party_f T w ht)
            clear hb ht
            go_wp2_with (first
              | (go_at_call 181; (with_reducible refine (party_t _ _ f0 f1).mono ?_); rintro e w' ⟨rfl, rfl⟩)
              | (go_at_call 181; (with_reducible refine (HT.out _).mono ?_); rintro e w' ⟨rfl, rfl⟩))
            go_ret
            exact ⟨ret_int HX.out.symm, HG.out.alloc _ _⟩
        · have HF := Lib.hid (fun w => party_f F w hf)
          clear hb hf
          go_wp2_with (go_at_call 181; (with_reducible refine (HF.out _).mono ?_); rintro e w' ⟨rfl, rfl⟩)
          go_ret
          exact ⟨ret_int HX.out.symm, HG.out.alloc _ _⟩
    · have HX : Hid (dueE ps = 0) := by unfold Hid; rw [HE.out, List.drop_eq_nil_of_le (by omega)]; rfl
      go_wp2
      go_ret
      exact ⟨ret_int HX.out.symm, HG.out⟩
theorem netCheck_any (v : Value) (ps : List (Int × Int × Int)) (w : World) (hr : ReadsP w v ps) : Calls Tryz.prog 172 #[v] w fun e w' => e = .returned (.int .i64 (netE ps)) ∧ Grew w w' := by
  obtain ⟨a, cap, rfl, -, hm, -, hc⟩ := hr
  by_cases h : 60 < ps.length
  · have e : netE ps = 2 := by unfold netE; rw [if_pos h]
    rw [e]
    exact netCheck_many a _ cap h hm w
  · have e : netE ps = dueE ps := by unfold netE; rw [if_neg h]
    rw [e]
    exact netCheck_few a cap ps w (by omega) hc

/-- the first that has less than nought -/
def negI (zs : List Int) : Int := if zs.findIdx (fun z => decide (z < 0)) < zs.length then (zs.findIdx (fun z => decide (z < 0)) : Nat) else -1
theorem negI_at {zs : List Int} {k : Nat} (hk : k < zs.length) (h1 : ∀ j, j < k → ¬ zs.getD j 0 < 0) (h2 : zs.getD k 0 < 0) : negI zs = (k : Int) := by
  have e : zs.findIdx (fun z => decide (z < 0)) = k := by
    rw [List.findIdx_eq hk]
    refine ⟨?_, fun j hj => ?_⟩
    · rw [List.getD_eq_getElem?_getD, List.getElem?_eq_getElem hk] at h2
      simpa using h2
    · have := h1 j hj
      rw [List.getD_eq_getElem?_getD, List.getElem?_eq_getElem (by omega)] at this
      simpa using this
  unfold negI
  rw [e, if_pos hk]
theorem negI_no {zs : List Int} (h1 : ∀ j, j < zs.length → ¬ zs.getD j 0 < 0) : negI zs = -1 := by
  unfold negI
  rw [if_neg]
  intro h
  have h2 := List.findIdx_getElem (w := h)
  have := h1 _ h
  rw [List.getD_eq_getElem?_getD, List.getElem?_eq_getElem h] at this
  simp at this h2
  omega

end Go.Proofs.YthaahebggboliaaGreat

-- Amounts
namespace Go.Proofs.YthaahebggboliaaGreat
open Go.RowKit
set_option linter.unusedVariables false

/-- the first k values, and then noughts -/
def mixF (f : Nat → Int) (n k : Nat) : List Int := (List.range n).map fun u => if u < k then f u else 0
theorem mixF_zero (f : Nat → Int) (n : Nat) : mixF f n 0 = List.replicate n 0 := by
  apply List.ext_getElem?
  intro j
  unfold mixF
  by_cases h : j < n
  · simp [h]
  · simp [h]
theorem mixF_len (f : Nat → Int) (n k : Nat) : (mixF f n k).length = n := by simp [mixF]
theorem mixF_all (f : Nat → Int) (n : Nat) : mixF f n n = (List.range n).map f := by
  unfold mixF
  exact List.map_congr_left fun u hu => if_pos (List.mem_range.1 hu)
theorem mixF_put (f : Nat → Int) (n k : Nat) (hk : k < n) : (mixF f n k).set k (f k) = mixF f n (k + 1) := by
  apply List.ext_getElem?
  intro j
  unfold mixF
  by_cases h : j < n
  · rcases Nat.lt_trichotomy j k with h1 | h1 | h1
    · simp [h, Nat.ne_of_gt h1, h1, Nat.lt_succ_of_lt h1]
    · subst h1; simp [h]
    · simp [h, Nat.ne_of_lt h1, show ¬ j < k by omega, show ¬ j < k + 1 by omega]
  · simp [h]

/-- what Amounts answers -/
def AmtsEnd (w : World) (n : Nat) (f : Nat → Int) (e : Ending) (w' : World) : Prop :=
  Grew w w' ∧ (((∀ u, u < n → amtB (f u) = true) ∧ ∃ g, w.heap.size ≤ g ∧ e = .returned (.tuple #[.slice (some ⟨g, 0, none⟩) n n, .int .i64 0]) ∧ Row w' g ((List.range n).map f)) ∨
    ((∃ u, u < n ∧ amtB (f u) = false) ∧ e = .returned (.tuple #[.slice none 0 0, .int .i64 8])))

set_option maxHeartbeats 1000000 in
theorem amounts_run (g n cap : Nat) (f : Nat → Int) (T : TypeId) (w : World) (hn : n ≤ 1000) (hb : Blk w g (sumsC n f) T) :
    Calls Tryz.prog 117 #[.slice (some ⟨g, 0, none⟩) n cap] w (AmtsEnd w n f) := by
  have HB := Lib.hid hb
  have hlt := hb.lt
  have MK := run_zeros w n (by omega)
  clear hb
  go_enter Tryz.func117, Tryz.ntmps117
  go_wp2
  go_loopw [14] (fun i wr => ∃ k : Nat, k ≤ n ∧ i = .int .i64 k ∧ Hid (∀ u, u < k → amtB (f u) = true) ∧ Hid (Row wr w.heap.size (mixF f n k)) ∧ Hid (Grew w wr)) (fun i _ => n - (intOf i).toNat)
  case atStart => exact ⟨0, Nat.zero_le _, rfl, (fun u hu => absurd hu (Nat.not_lt_zero u)), (by unfold Hid; rw [mixF_zero]; exact Row.made w n), (Grew.refl _).alloc _ _⟩
  case round =>
    obtain ⟨k, hk, rfl, HA, HR, HG⟩ := hrel
    clear MK
    by_cases hlt2 : k < n
    · have c0 : wr.cell? ⟨g, k * 2, none⟩ = some (.int .i64 (hiOf (f k))) := ((HB.out.grew HG.out).cell _).trans (sums_hi n _ k hlt2)
      have c1 : wr.cell? ⟨g, k * 2 + 1, none⟩ = some (.int .u64 (loOf (f k))) := ((HB.out.grew HG.out).cell _).trans (sums_lo n _ k hlt2)
      have HP := Lib.hid (mixF_put f n k hlt2)
      have HL : Hid (∀ u, u < k + 1 → amtB (f k) = true → amtB (f u) = true) := fun u hu h => by
        rcases Nat.lt_or_ge u k with h1 | h1
        · exact HA.out u h1
        · obtain rfl : u = k := by omega
          exact h
      have HX : Hid (amtB (f k) = false → ∃ u, u < n ∧ amtB (f u) = false) := fun h => ⟨k, hlt2, h⟩
      generalize f k = z at *
      cases hz : amtB z with
      | true =>
        have AM := Lib.hid (fun W => amount_ok z W hz)
        have HZ := Lib.hid hz
        clear hz
        go_wp2_with (go_at_call 137; (with_reducible refine (AM.out _).mono ?_); rintro e w4 ⟨rfl, t4⟩; have R4 := Lib.hid ((HR.out.grew ((Grew.refl _).alloc _ _)).grew t4); have G4 := Lib.hid (gtr (HG.out.alloc _ _) t4); clear t4; have fz := R4.out.frozen k; have cz := R4.out.cell (j := k) (by rw [mixF_len]; exact hlt2))
        go_roundw
        case rel => exact ⟨k + 1, by omega, by go_num, fun u hu => HL.out u hu HZ.out, by unfold Hid; rw [← HP.out]; exact R4.out.put k z, G4.out.setCell (by simp) _⟩
        case measure => simp [intOf]; omega
      | false =>
        have AM := Lib.hid (fun W => amount_no z W hz)
        have HZ := Lib.hid hz
        clear hz
        go_wp2_with (go_at_call 137; (with_reducible refine (AM.out _).mono ?_); rintro e w4 ⟨rfl, t4⟩; have G4 := Lib.hid (gtr (HG.out.alloc _ _) t4); clear t4)
        go_ret2
        exact ⟨G4.out, .inr ⟨HX.out HZ.out, rfl⟩⟩
    · obtain rfl : k = n := by omega
      have e := mixF_all f k
      rw [e] at HR
      clear e
      go_wp2
      go_ret2
      exact ⟨HG.out, .inl ⟨HA.out, _, Nat.le_refl _, rfl, HR.out⟩⟩

end Go.Proofs.YthaahebggboliaaGreat

-- NetS
namespace Go.Proofs.YthaahebggboliaaGreat
open Go.RowKit
set_option linter.unusedVariables false

theorem stand_made (w : World) : Blk (w.alloc (.cells #[.int .i64 0, .int .u64 0, .int .i64 0, .int .u64 0, .int .i64 0, .int .u64 0, .int .i64 0, .int .u64 0, .int .i64 0, .int .u64 0, .int .i64 0, .int .u64 0, .int .i64 0, .int .u64 0, .int .i64 0, .int .u64 0, .int .i64 0, .int .u64 0, .int .i64 0, .int .u64 0, .int .i64 0, .int .u64 0, .int .i64 0, .int .u64 0, .int .i64 0, .int .u64 0, .int .i64 0, .int .u64 0, .int .i64 0, .int .u64 0, .int .i64 0, .int .u64 0, .int .i64 0, .int .u64 0, .int .i64 0, .int .u64 0, .int .i64 0, .int .u64 0, .int .i64 0, .int .u64 0, .int .i64 0, .int .u64 0, .int .i64 0, .int .u64 0, .int .i64 0, .int .u64 0, .int .i64 0, .int .u64 0, .int .i64 0, .int .u64 0, .int .i64 0, .int .u64 0, .int .i64 0, .int .u64 0, .int .i64 0, .int .u64 0, .int .i64 0, .int .u64 0, .int .i64 0, .int .u64 0, .int .i64 0, .int .u64 0] 193)) w.heap.size (sumsC 31 fun _ => 0) 193 := by
  have e : sumsC 31 (fun _ => 0) = #[.int .i64 0, .int .u64 0, .int .i64 0, .int .u64 0, .int .i64 0, .int .u64 0, .int .i64 0, .int .u64 0, .int .i64 0, .int .u64 0, .int .i64 0, .int .u64 0, .int .i64 0, .int .u64 0, .int .i64 0, .int .u64 0, .int .i64 0, .int .u64 0, .int .i64 0, .int .u64 0, .int .i64 0, .int .u64 0, .int .i64 0, .int .u64 0, .int .i64 0, .int .u64 0, .int .i64 0, .int .u64 0, .int .i64 0, .int .u64 0, .int .i64 0, .int .u64 0, .int .i64 0, .int .u64 0, .int .i64 0, .int .u64 0, .int .i64 0, .int .u64 0, .int .i64 0, .int .u64 0, .int .i64 0, .int .u64 0, .int .i64 0, .int .u64 0, .int .i64 0, .int .u64 0, .int .i64 0, .int .u64 0, .int .i64 0, .int .u64 0, .int .i64 0, .int .u64 0, .int .i64 0, .int .u64 0, .int .i64 0, .int .u64 0, .int .i64 0, .int .u64 0, .int .i64 0, .int .u64 0, .int .i64 0, .int .u64 0] := by kernel_rfl
  rw [e]; exact Blk.made w _ _

/-- what others owe to a party, less what it owes -/
def standF : List (Int × Int × Int) → Nat → Int
  | [], _ => 0
  | p :: l, x => (if p.2.1 = (x : Int) then p.2.2 else 0) - (if p.1 = (x : Int) then p.2.2 else 0) + standF l x
theorem standF_append (a b : List (Int × Int × Int)) (x : Nat) : standF (a ++ b) x = standF a x + standF b x := by
  induction a with
  | nil => simp [standF]
  | cons p l ih => rw [List.cons_append, standF, standF, ih]; omega
theorem standF_snoc {ps : List (Int × Int × Int)} {k : Nat} (hk : k < ps.length) (x : Nat) : standF (ps.take (k + 1)) x = standF (ps.take k) x + (if (ps.getD k default).1 = (x : Int) then -(ps.getD k default).2.2 else 0) + (if (ps.getD k default).2.1 = (x : Int) then (ps.getD k default).2.2 else 0) := by
  rw [List.take_succ_eq_append_getElem hk, standF_append, List.getD_eq_getElem?_getD, List.getElem?_eq_getElem hk]
  simp only [standF, Option.getD_some]
  split <;> split <;> omega
theorem standF_bd {ps : List (Int × Int × Int)} (h : ∀ p ∈ ps, dueB p = true) (x : Nat) : -(1152921504606846976 * (ps.length : Int)) ≤ standF ps x ∧ standF ps x ≤ 1152921504606846976 * (ps.length : Int) := by
  induction ps with
  | nil => simp [standF]
  | cons p l ih =>
    have hp := due_t (h p (by simp))
    have := ih (fun q hq => h q (by simp [hq]))
    rw [standF, List.length_cons]
    split <;> split <;> omega
theorem stand_put {w1 : World} {g u : Nat} {N : Int} {f h : Nat → Int} (hu : u < 31) (hst : ∀ x : Nat, h x = f x + if (u : Int) = (x : Int) then N else 0) (B : Blk w1 g (sumsC 31 f) 193) :
    Hid (Blk ((w1.setCell ⟨g, u * 2, none⟩ (.int .i64 (hiOf (f u + N)))).setCell ⟨g, u * 2 + 1, none⟩ (.int .u64 (loOf (f u + N)))) g (sumsC 31 h) 193) := by
  have e := sums_put 31 f h u hu (fun x hx => by rw [hst x, if_neg (by omega), Int.add_zero])
  have e2 : h u = f u + N := by rw [hst u, if_pos rfl]
  rw [e2] at e
  unfold Hid
  rw [← e]
  exact (B.put _ _).put _ _

set_option maxRecDepth 100000 in
theorem stand_bad (v : Value) (ps : List (Int × Int × Int)) (w : World) (hr : ReadsP w v ps) (hE : netE ps ≠ 0) :
    Calls Tryz.prog 152 #[v] w fun e w' => e = .returned (.tuple #[.slice none 0 0, .int .i64 (netE ps)]) ∧ Grew w w' := by
  have C := Lib.hid (netCheck_any v ps w hr)
  generalize netE ps = E at C hE
  have q : (E != 0) = true := bne_iff_ne.2 hE
  clear hr
  go_enter Tryz.func152, Tryz.ntmps152
  go_wp2_with (go_at_call 172; (with_reducible refine C.out.mono ?_); rintro e w' ⟨rfl, g1⟩)
  go_ret2
  exact ⟨rfl, g1⟩

set_option maxHeartbeats 4000000 in
set_option maxRecDepth 100000 in
theorem stand_some (b off cap : Nat) (ps : List (Int × Int × Int)) (w : World) (hr : ReadsP w (.slice (some ⟨b, off, none⟩) ps.length cap) ps) (hE : netE ps = 0) (hm : ps.length ≤ 60) (hd : ∀ p ∈ ps, dueB p = true) (hc : ∀ j, j < ps.length → PtAt w b (off + j * 3) (ps.getD j default)) :
    Calls Tryz.prog 152 #[.slice (some ⟨b, off, none⟩) ps.length cap] w fun e w' => ∃ w1, Grew w w1 ∧ AmtsEnd w1 31 (standF ps) e w' := by
  have C := Lib.hid (netCheck_any _ ps w hr)
  rw [hE] at C
  have HC := Lib.hid hc; clear hc
  have HP := Lib.hid hd
  have HBD : Hid (∀ k x : Nat, k ≤ ps.length → -(1152921504606846976 * (k : Int)) ≤ standF (ps.take k) x ∧ standF (ps.take k) x ≤ 1152921504606846976 * (k : Int)) := fun k x hk => by
    have := standF_bd (ps := ps.take k) (fun p hp => hd p (List.mem_of_mem_take hp)) x
    rwa [List.length_take, Nat.min_eq_left hk] at this
  clear hd hr hE
  go_enter Tryz.func152, Tryz.ntmps152
  go_wp2_with (go_at_call 172; (with_reducible refine C.out.mono ?_); rintro e w0 ⟨rfl, g0⟩; have G0 := Lib.hid g0; clear g0)
  go_loopw [15] (fun i wr => ∃ k : Nat, k ≤ ps.length ∧ i = .int .i64 k ∧ Hid (Blk wr w0.heap.size (sumsC 31 (standF (ps.take k))) 193) ∧ Hid (Grew w0 wr)) (fun i _ => ps.length - (intOf i).toNat)
  case atStart => exact ⟨0, Nat.zero_le _, rfl, stand_made w0, (Grew.refl _).alloc _ _⟩
  case round =>
    obtain ⟨k, hk, rfl, HB, HG⟩ := hrel
    by_cases hlt : k < ps.length
    · obtain ⟨c0, c1, c2⟩ := ((HC.out k hlt).grew G0.out).grew HG.out
      have hq := due_t (HP.out _ (getP_mem hlt))
      have hst := standF_snoc hlt
      have bd := fun x => HBD.out k x hk
      generalize ps.getD k default = p at c0 c1 c2 hq hst
      obtain ⟨F, T, A⟩ := p
      simp only at c0 c1 c2 hq hst
      obtain ⟨f, rfl⟩ : ∃ f : Nat, F = (f : Int) := ⟨F.toNat, by omega⟩
      obtain ⟨t, rfl⟩ : ∃ t : Nat, T = (t : Int) := ⟨T.toNat, by omega⟩
      have hf : f < 31 := by omega
      have ht : t < 31 := by omega
      have a0 : 1 ≤ A := by omega
      have a1 : A ≤ 1152921504606846976 := by omega
      obtain ⟨h1, hh1⟩ : ∃ h1 : Nat → Int, ∀ x : Nat, h1 x = standF (ps.take k) x + if (f : Int) = (x : Int) then -A else 0 := ⟨_, fun x => rfl⟩
      have hh2 : ∀ x : Nat, standF (ps.take (k + 1)) x = h1 x + if (t : Int) = (x : Int) then A else 0 := fun x => by rw [hst x, hh1 x]
      have ok0 : okS (standF (ps.take k) f) := okS_mk (k := 60) (by omega) (by have := bd f; omega) (by have := bd f; omega)
      have ok1 : okS (h1 t) := by
        have e1 := hh1 t
        have e2 := bd t
        refine okS_mk (k := 61) (by omega) ?_ ?_
        · rw [e1]; split <;> omega
        · rw [e1]; split <;> omega
      have OK0 := Lib.hid ok0
      have OK1 := Lib.hid ok1
      have H1 := Lib.hid hh1
      have H2 := Lib.hid hh2
      clear hst bd hq ok0 ok1 hh1 hh2
      go_wp2
      have e0 : (wr.alloc (.cells #[.int .i64 (f : Int), .int .i64 (t : Int), .int .i64 A] 130)).cell? ⟨wr.heap.size, 0, none⟩ = some (.int .i64 (f : Int)) := (Blk.made wr _ _).cell 0
      have GA := Lib.hid (HG.out.alloc #[.int .i64 (f : Int), .int .i64 (t : Int), .int .i64 A] 130)
      have WA := Lib.hid (HB.out.alloc (.cells #[.int .i64 (f : Int), .int .i64 (t : Int), .int .i64 A] 130))
      have DA := Lib.hid (Blk.made wr #[.int .i64 (f : Int), .int .i64 (t : Int), .int .i64 A] 130)
      have hlt2 : w0.heap.size < wr.heap.size := HB.out.lt
      clear c0 c1 c2 e0
      generalize wr.alloc (.cells #[.int .i64 (f : Int), .int .i64 (t : Int), .int .i64 A] 130) = W1 at *
      generalize wr.heap.size = D at *
      have hne : D ≠ w0.heap.size := by omega
      have hne' : w0.heap.size ≠ D := by omega
      have f0 : (0 : Int) ≤ (f : Int) := by omega
      have f1 : (f : Int) < 31 := by omega
      have t0 : (0 : Int) ≤ (t : Int) := by omega
      have t1 : (t : Int) < 31 := by omega
      have wn : IntKind.i64.wrap (-A) = -A := IntWalk.i64_in _ (by omega)
      go_cut [20] from 19 to 29 (fun v20 wx => v20 = .int .i64 (f : Int) ∧ Hid (Blk wx w0.heap.size (sumsC 31 h1) 193) ∧ Hid (Blk wx D #[.int .i64 (f : Int), .int .i64 (t : Int), .int .i64 A] 130) ∧ Hid (Grew w0 wx))
      case first =>
        have e0 : W1.cell? ⟨D, 0, none⟩ = some (.int .i64 (f : Int)) := DA.out.cell 0
        have e2 : W1.cell? ⟨D, 2, none⟩ = some (.int .i64 A) := DA.out.cell 2
        have d0 : W1.cell? ⟨w0.heap.size, f * 2, none⟩ = some (.int .i64 (hiOf (standF (ps.take k) f))) := (WA.out.cell _).trans (sums_hi 31 _ f hf)
        have d1 : W1.cell? ⟨w0.heap.size, f * 2 + 1, none⟩ = some (.int .u64 (loOf (standF (ps.take k) f))) := (WA.out.cell _).trans (sums_lo 31 _ f hf)
        go_region_with (go_at_call 116; (with_reducible refine (plus_at (standF (ps.take k) f) (-A) _ OK0.out (by omega) (by omega)).mono ?_); rintro e w1 ⟨rfl, g1⟩; have k1 := g1.cell (cell_in (w := W1.drew) e0) e0; have B1 := Lib.hid ((WA.out.drew).grew g1); have D1 := Lib.hid ((DA.out.drew).grew g1); have d2 : w1.cell? ⟨w0.heap.size, f * 2, none⟩ = some (.int .i64 (hiOf (standF (ps.take k) f))) := (B1.out.cell _).trans (sums_hi 31 _ f hf); have d3 : w1.cell? ⟨w0.heap.size, f * 2 + 1, none⟩ = some (.int .u64 (loOf (standF (ps.take k) f))) := (B1.out.cell _).trans (sums_lo 31 _ f hf); have f0 := B1.out.frozen (f * 2); have f1 := B1.out.frozen (f * 2 + 1); have G1 := Lib.hid (gtr GA.out.drew g1); clear g1)
        all_goals go_wp2
        all_goals go_meet
        all_goals (case rel => exact ⟨rfl, stand_put hf H1.out B1.out, (D1.out.away (by simpa using hne) _).away (by simpa using hne) _, (G1.out.setCell (Nat.le_refl _) _).setCell (Nat.le_refl _) _⟩)
      case rest =>
      obtain ⟨rfl, hb2, hd2, hg2⟩ := hcut
      go_upto_region 9 with fail
      have e0 : wc.cell? ⟨D, 1, none⟩ = some (.int .i64 (t : Int)) := hd2.out.cell 1
      have e2 : wc.cell? ⟨D, 2, none⟩ = some (.int .i64 A) := hd2.out.cell 2
      have d0 : wc.cell? ⟨w0.heap.size, t * 2, none⟩ = some (.int .i64 (hiOf (h1 t))) := (hb2.out.cell _).trans (sums_hi 31 _ t ht)
      have d1 : wc.cell? ⟨w0.heap.size, t * 2 + 1, none⟩ = some (.int .u64 (loOf (h1 t))) := (hb2.out.cell _).trans (sums_lo 31 _ t ht)
      go_region_with (go_at_call 116; (with_reducible refine (plus_at (h1 t) (A) _ OK1.out (by omega) (by omega)).mono ?_); rintro e w1 ⟨rfl, g1⟩; have k1 := g1.cell (cell_in (w := wc.drew) e0) e0; have B1 := Lib.hid ((hb2.out.drew).grew g1); have D1 := Lib.hid ((hd2.out.drew).grew g1); have d2 : w1.cell? ⟨w0.heap.size, t * 2, none⟩ = some (.int .i64 (hiOf (h1 t))) := (B1.out.cell _).trans (sums_hi 31 _ t ht); have d3 : w1.cell? ⟨w0.heap.size, t * 2 + 1, none⟩ = some (.int .u64 (loOf (h1 t))) := (B1.out.cell _).trans (sums_lo 31 _ t ht); have f0 := B1.out.frozen (t * 2); have f1 := B1.out.frozen (t * 2 + 1); have G1 := Lib.hid (gtr hg2.out.drew g1); clear g1)
      all_goals go_wp2
      all_goals go_roundw
      all_goals first
        | (case rel => exact ⟨k + 1, by omega, by go_num, stand_put ht H2.out B1.out, (G1.out.setCell (Nat.le_refl _) _).setCell (Nat.le_refl _) _⟩)
        | (case measure => simp [intOf]; omega)
    · obtain rfl : k = ps.length := by omega
      have e : ps.take ps.length = ps := List.take_of_length_le (Nat.le_refl _)
      rw [e] at HB
      have AM := Lib.hid (amounts_run w0.heap.size 31 31 (standF ps) 193 wr (by omega) HB.out)
      have GG := Lib.hid (gtr G0.out HG.out)
      clear e HB
      go_wp2_with (go_at_call 117; (with_reducible refine AM.out.mono ?_); rintro e w9 h9; have G9 := Lib.hid h9.1; rcases h9.2 with ⟨ha, g, hg, rfl, hrow⟩ | ⟨ha, rfl⟩ <;> (have H9 := Lib.hid ha; clear ha h9))
      · go_ret2
        exact ⟨wr, GG.out, G9.out, .inl ⟨H9.out, g, hg, rfl, hrow⟩⟩
      · go_ret2
        exact ⟨wr, GG.out, G9.out, .inr ⟨H9.out, rfl⟩⟩

end Go.Proofs.YthaahebggboliaaGreat
