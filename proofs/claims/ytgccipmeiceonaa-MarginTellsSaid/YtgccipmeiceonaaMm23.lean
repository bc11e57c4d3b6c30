/-
  Merged: SumOf, SumOfW, SumOfO.
-/
import Derived.Test.YtgccipmeiceonaaMm4
import Derived.Test.YtgccipmeiceonaaMm0
import Derived.Test.YtgccipmeiceonaaMm7
import Derived.Test.YtgccipmeiceonaaMm20
-- SumOf
namespace Go.Proofs.Ytgccipmeiceonaa
open Go.RowKit
set_option linter.unusedVariables false

def posL (zs : List Int) : List Int := zs.filter fun z => decide (0 ≤ z)
def negL (zs : List Int) : List Int := zs.filter fun z => decide (z < 0)
theorem part_sum (zs : List Int) : (posL zs).sum + (negL zs).sum = zs.sum := by
  induction zs with
  | nil => rfl
  | cons z l ih =>
    unfold posL negL at *
    rw [List.filter_cons, List.filter_cons, List.sum_cons]
    by_cases h : 0 ≤ z
    · rw [if_pos (by simpa using h), if_neg (by simpa using h), List.sum_cons]; omega
    · rw [if_neg (by simpa using h), if_pos (by simp; omega), List.sum_cons]; omega
theorem pos_more {zs : List Int} {k : Nat} (hk : k < zs.length) (h : 0 ≤ zs.getD k 0) : posL (zs.take (k + 1)) = posL (zs.take k) ++ [zs.getD k 0] ∧ negL (zs.take (k + 1)) = negL (zs.take k) := by
  unfold posL negL
  rw [List.getD_eq_getElem?_getD, List.getElem?_eq_getElem hk] at *
  simp only [Option.getD_some] at *
  rw [List.take_succ_eq_append_getElem hk, List.filter_append, List.filter_append, List.filter_cons_of_pos (by simpa using h), List.filter_cons_of_neg (by simpa using h)]
  simp
theorem neg_more {zs : List Int} {k : Nat} (hk : k < zs.length) (h : zs.getD k 0 < 0) : negL (zs.take (k + 1)) = negL (zs.take k) ++ [zs.getD k 0] ∧ posL (zs.take (k + 1)) = posL (zs.take k) := by
  unfold posL negL
  rw [List.getD_eq_getElem?_getD, List.getElem?_eq_getElem hk] at *
  simp only [Option.getD_some] at *
  rw [List.take_succ_eq_append_getElem hk, List.filter_append, List.filter_append, List.filter_cons_of_pos (by simpa using h), List.filter_cons_of_neg (by simp; omega)]
  simp
theorem part_len (zs : List Int) (k : Nat) : (posL (zs.take k)).length ≤ zs.length ∧ (negL (zs.take k)).length ≤ zs.length := by
  have h1 := List.length_filter_le (fun z : Int => decide (0 ≤ z)) (zs.take k)
  have h2 := List.length_filter_le (fun z : Int => decide (z < 0)) (zs.take k)
  rw [List.length_take] at h1 h2
  unfold posL negL
  omega

/-- so far: what is added, what is left above nought, what is left below -/
structure Halves (T S : Int) (M L : List Int) : Prop where
  all : S + M.sum + L.sum = T
  up : ∀ z ∈ M, 0 ≤ z ∧ z ≤ 1152921504606846976
  dn : ∀ z ∈ L, -1152921504606846976 ≤ z ∧ z < 0
  lo : -2305843009213693952 ≤ S
  hi : S ≤ 2305843009213693952
theorem halves_start {zs : List Int} (ha : ∀ z ∈ zs, amtB z = true) : Halves zs.sum 0 (posL zs) (negL zs) := by
  refine ⟨by rw [Int.zero_add, part_sum], fun z hz => ?_, fun z hz => ?_, by decide, by decide⟩
  · obtain ⟨h1, h2⟩ := List.mem_filter.1 hz
    exact ⟨by simpa using h2, (amt_t (ha z h1)).2⟩
  · obtain ⟨h1, h2⟩ := List.mem_filter.1 hz
    exact ⟨(amt_t (ha z h1)).1, by simpa using h2⟩
theorem sum_up {M : List Int} (h : ∀ z ∈ M, 0 ≤ z ∧ z ≤ 1152921504606846976) : 0 ≤ M.sum := by
  induction M with
  | nil => exact Int.le_refl _
  | cons z l ih => have := ih fun x hx => h x (by simp [hx]); have := h z (by simp); rw [List.sum_cons]; omega
theorem sum_dn {M : List Int} (h : ∀ z ∈ M, -1152921504606846976 ≤ z ∧ z < 0) : M.sum ≤ 0 := by
  induction M with
  | nil => exact Int.le_refl _
  | cons z l ih => have := ih fun x hx => h x (by simp [hx]); have := h z (by simp); rw [List.sum_cons]; omega
/-- one more from above: it stays within, or it is no amount at all -/
theorem halves_up {T S z : Int} {M L : List Int} (h : Halves T S (z :: M) L) (hc : L = [] ∨ S ≤ 0) : (-2305843009213693952 ≤ S + z) ∧ ((S + z ≤ 2305843009213693952 ∧ Halves T (S + z) M L) ∨ (2305843009213693952 < S + z ∧ amtB T = false)) := by
  have hz := h.up z (by simp)
  have ha := h.all
  rw [List.sum_cons] at ha
  have hl := h.lo
  refine ⟨by omega, ?_⟩
  by_cases q : S + z ≤ 2305843009213693952
  · exact .inl ⟨q, by omega, fun x hx => h.up x (by simp [hx]), h.dn, by omega, q⟩
  · rcases hc with rfl | hc
    · have := sum_up fun x hx => h.up x (List.mem_cons_of_mem z hx)
      simp at ha
      exact .inr ⟨by omega, amt_no (by omega)⟩
    · omega
theorem halves_dn {T S z : Int} {M L : List Int} (h : Halves T S M (z :: L)) (hc : M = [] ∨ 0 < S) : (S + z ≤ 2305843009213693952) ∧ ((-2305843009213693952 ≤ S + z ∧ Halves T (S + z) M L) ∨ (S + z < -2305843009213693952 ∧ amtB T = false)) := by
  have hz := h.dn z (by simp)
  have ha := h.all
  rw [List.sum_cons] at ha
  have hl := h.hi
  refine ⟨by omega, ?_⟩
  by_cases q : -2305843009213693952 ≤ S + z
  · exact .inl ⟨q, by omega, h.up, fun x hx => h.dn x (by simp [hx]), q, by omega⟩
  · rcases hc with rfl | hc
    · have := sum_dn fun x hx => h.dn x (List.mem_cons_of_mem z hx)
      simp at ha
      exact .inr ⟨by omega, amt_no (by omega)⟩
    · omega
theorem halves_end {T S : Int} (h : Halves T S [] []) : S = T := by have := h.all; simpa using this

/-- a slice that is long enough, and reads as a list -/
def RdsN (w : World) (v : Value) (zs : List Int) : Prop := ∃ (a : Option Addr) (cap : Nat), v = .slice a zs.length cap ∧ zs.length ≤ cap ∧ cap ≤ maxLen ∧ Reads w v zs
theorem RdsN.kpt {w w' : World} {v : Value} {zs : List Int} (h : RdsN w v zs) (g : Kpt w w') : RdsN w' v zs := by
  obtain ⟨a, c, e, hc, hm, hr⟩ := h
  exact ⟨a, c, e, hc, hm, hr.kpt g⟩
theorem Owns.rdsN {w : World} {base : Nat} {v : Value} {zs : List Int} (h : Owns w base v zs) : RdsN w v zs := by
  obtain ⟨a, cap, hv, hr⟩ := h.reads
  refine ⟨a, cap, hv, ?_, ?_, hr⟩
  all_goals
    rcases h.2 with ⟨e, hn⟩ | ⟨k, cap', cur, e, hk, hh, hn, hm, _⟩
    · rw [hv] at e; injection e with _ _ e; omega
    · rw [hv] at e; injection e with _ _ e; omega
theorem RdsN.slot {w : World} {v : Value} {zs : List Int} (h : RdsN w v zs) : ∃ (a : Option Addr) (n cap : Nat), v = .slice a n cap ∧ Hid (n = zs.length) ∧ n ≤ 9223372036854775807 := by
  obtain ⟨a, cap, rfl, h1, h2, hr⟩ := h
  exact ⟨a, _, cap, rfl, rfl, by unfold maxLen at h2; omega⟩
theorem RdsN.parts {w : World} {v : Value} {z : Int} {zs : List Int} (h : RdsN w v (z :: zs)) : ∃ (b off n cap : Nat), v = .slice (some ⟨b, off, none⟩) n cap ∧ Hid (n = zs.length + 1) ∧ 0 < n ∧ n ≤ cap ∧ n ≤ 9223372036854775807 ∧ cap ≤ 9223372036854775807 ∧ w.cell? ⟨b, off, none⟩ = some (.int .i64 z) ∧ (cap = 1 → n = 1 ∧ Hid (zs = [])) ∧ (cap ≠ 1 → Hid (RdsN w (.slice (some ⟨b, off + 1, none⟩) (n - 1) (cap - 1)) zs)) := by
  obtain ⟨a, cap, rfl, hcap, hcm, hr⟩ := h
  have hl := hr.len
  unfold maxLen at hl hcm
  rcases hr.cell with ⟨e, _⟩ | ⟨_, b, off, cap', e, hc⟩
  · cases e
  · injection e with e1 e2 e3
    subst e1; subst e3
    have hl' : zs.length + 1 ≤ cap := hcap
    refine ⟨b, off, zs.length + 1, cap, rfl, rfl, by omega, by omega, by simp at hl; omega, by omega, hc 0 (by simp), fun e => ⟨by omega, List.eq_nil_of_length_eq_zero (by omega)⟩, fun e => ?_⟩
    refine ⟨_, cap - 1, rfl, by omega, by unfold maxLen; omega, ?_⟩
    by_cases hz : zs = []
    · subst hz; exact reads_nil _ _ _
    · have : 0 < zs.length := List.length_pos_iff.2 hz
      refine reads_mk rfl (by unfold maxLen; simp at hl; omega) fun j hj => ?_
      have := hc (j + 1) (by simpa using hj)
      rw [show off + 1 + j = off + (j + 1) by omega]
      simpa using this
theorem RdsN.empty {w : World} {v : Value} (h : RdsN w v []) : ∃ (a : Option Addr) (cap : Nat), v = .slice a 0 cap := by
  obtain ⟨a, cap, rfl, _⟩ := h
  exact ⟨a, cap, rfl⟩
theorem RdsN.cut {w : World} {a : Option Addr} {n cap : Nat} {M : List Int} (h : RdsN w (.slice a n cap) M) (h0 : n ≠ 0) : ∃ (b off : Nat) (z : Int) (M' : List Int), a = some ⟨b, off, none⟩ ∧ Hid (M = z :: M') ∧ n ≤ cap ∧ cap ≤ 9223372036854775807 ∧ w.cell? ⟨b, off, none⟩ = some (.int .i64 z) ∧ (cap = 1 → n = 1 ∧ Hid (M' = [])) ∧ (cap ≠ 1 → Hid (RdsN w (.slice (some ⟨b, off + 1, none⟩) (n - 1) (cap - 1)) M')) := by
  cases M with
  | nil =>
    obtain ⟨a', c', e⟩ := h.empty
    injection e with _ e _
    exact absurd e h0
  | cons z M' =>
    obtain ⟨b, off, n', cap', e, h1, h2, h3, h4, h5, h6, h7, h8⟩ := h.parts
    injection e with e1 e2 e3
    subst e1; subst e2; subst e3
    exact ⟨b, off, z, M', rfl, rfl, h3, h5, h6, h7, h8⟩
theorem RdsN.nil {w : World} {a : Option Addr} {n cap : Nat} {M : List Int} (h : RdsN w (.slice a n cap) M) (h0 : n = 0) : M = [] := by
  obtain ⟨a', c', e, _⟩ := h
  injection e with _ e _
  exact List.eq_nil_of_length_eq_zero (by omega)
theorem rdsN_nil (w : World) (a : Option Addr) (cap : Nat) (h : cap ≤ 9223372036854775807) : RdsN w (.slice a 0 cap) [] := ⟨a, cap, rfl, Nat.zero_le _, by unfold maxLen; omega, reads_nil _ _ _⟩
/-- what SumOf answers -/
def RSumRes (w : World) (S : Int) (e : Ending) (w' : World) : Prop :=
  Kpt w w' ∧ ((amtB S = true ∧ e = .returned (.tuple #[.int .i64 S, .bool true])) ∨ (amtB S = false ∧ ∃ r : Int, e = .returned (.tuple #[.int .i64 r, .bool false])))

end Go.Proofs.Ytgccipmeiceonaa

-- SumOfW
namespace Go.Proofs.Ytgccipmeiceonaa
open Go.RowKit
set_option linter.unusedVariables false

def sliceLen : Value → Nat
  | .slice _ n _ => n
  | _ => 0
def Fork (w w' : World) (m l : Value) (M L : List Int) : Prop := Owns w' w.heap.size m M ∧ Owns w' w.heap.size l L ∧ Apart m l ∧ Apart l m

set_option maxRecDepth 100000 in
set_option maxHeartbeats 2000000 in
theorem sumOf_any (v : Value) (zs : List Int) (w : World) (hr : Reads w v zs) (hm : zs.length ≤ 1000) (ha : ∀ z ∈ zs, amtB z = true) :
    Calls Try.prog 85 #[v] w (RSumRes w zs.sum) := by
  have HC : Hid (∀ k, k < zs.length → ∃ b off, v = .slice (some ⟨b, off, none⟩) zs.length (match v with | .slice _ _ c => c | _ => 0) ∧ w.cell? ⟨b, off + k, none⟩ = some (.int .i64 (zs.getD k 0))) := by
    intro k hk
    rcases hr.cell with ⟨rfl, _⟩ | ⟨_, b, off, cap, rfl, hc⟩
    · simp at hk
    · exact ⟨b, off, rfl, hc k hk⟩
  obtain ⟨a, cap, rfl, -⟩ := id hr
  simp only at HC
  have HS := Lib.hid (halves_start ha)
  have PL := Lib.hid (part_len zs)
  obtain ⟨T, hT⟩ : ∃ T, T = zs.sum := ⟨_, rfl⟩
  rw [← hT] at HS ⊢
  clear hr ha hT
  go_enter Try.func85, Try.ntmps85
  go_wp2
  go_loopw [4, 5, 6] (fun m l i wr => ∃ k : Nat, k ≤ zs.length ∧ i = .int .i64 k ∧ Hid (Fork w wr m l (posL (zs.take k)) (negL (zs.take k))) ∧ Hid (Kpt w wr)) (fun _ _ i _ => zs.length - (intOf i).toNat)
  case atStart => exact ⟨0, Nat.zero_le _, rfl, ⟨Owns.nil _ _, Owns.nil _ _, .inl rfl, .inl rfl⟩, Kpt.refl _⟩
  case round =>
    obtain ⟨k, hk, rfl, HF, HK⟩ := hrel
    by_cases hlt : k < zs.length
    · obtain ⟨b, off, e, hc⟩ := HC.out k hlt
      injection e with e1 _ _
      subst e1
      have c0 := HK.out.cell hc
      have hp := Lib.hid (pos_more hlt)
      have hn := Lib.hid (neg_more hlt)
      have hl := Lib.hid (PL.out k)
      clear hc
      generalize zs.getD k 0 = z at c0 hp hn
      have k0 : (0 : Int) ≤ (k : Int) := by omega
      have k1 : (k : Int) < (zs.length : Int) := by omega
      by_cases hz : 0 ≤ z
      · have HX := Lib.hid (hp.out hz)
        clear hp hn
        go_wp2_with (at_builtin; refine wp_append2 rfl (.tmp 19) (.tmp 24) rfl w.heap.size _ _ z wr rfl HF.out.1 rfl (by have := hl.out.1; omega) HK.out.size _ _ HF.out.2.1 HF.out.2.2.2 ?_; intro v' w' h1 h2 h3 h4 h5; have HF' : Hid (Fork w w' v' u5 (posL (zs.take (k + 1))) (negL (zs.take (k + 1)))) := (by unfold Hid; rw [HX.out.1, HX.out.2]; exact ⟨h1, h3, h5, h4⟩); have HK' : Hid (Kpt w w') := Below.trans HK.out h2; clear h1 h2 h3 h4 h5)
        go_roundw
        case rel => exact ⟨k + 1, by omega, by go_num, HF'.out, HK'.out⟩
        case measure => simp [intOf]; omega
      · have hz' : decide (0 ≤ z) = false := decide_eq_false hz
        have HX := Lib.hid (hn.out (by omega))
        clear hp hn
        go_wp2_with (at_builtin; refine wp_append2 rfl (.tmp 26) (.tmp 31) rfl w.heap.size _ _ z wr rfl HF.out.2.1 rfl (by have := hl.out.2; omega) HK.out.size _ _ HF.out.1 HF.out.2.2.1 ?_; intro v' w' h1 h2 h3 h4 h5; have HF' : Hid (Fork w w' u4 v' (posL (zs.take (k + 1))) (negL (zs.take (k + 1)))) := (by unfold Hid; rw [HX.out.1, HX.out.2]; exact ⟨h3, h1, h4, h5⟩); have HK' : Hid (Kpt w w') := Below.trans HK.out h2; clear h1 h2 h3 h4 h5)
        go_roundw
        case rel => exact ⟨k + 1, by omega, by go_num, HF'.out, HK'.out⟩
        case measure => simp [intOf]; omega
    · have e : zs.take k = zs := List.take_of_length_le (by omega)
      rw [e] at HF
      clear e
      have HM := Lib.hid HF.out.1.rdsN
      have HL := Lib.hid HF.out.2.1.rdsN
      have PN : Hid ((posL zs).length + (negL zs).length ≤ 2000) := by
        have h := PL.out zs.length
        rw [List.take_length] at h
        unfold Hid
        omega
      clear HF PL
      go_wp2
      go_loopw [4, 5, 7] (fun m l s wr2 => ∃ (M L : List Int) (S : Int), s = .int .i64 S ∧ Hid (RdsN wr2 m M) ∧ Hid (RdsN wr2 l L) ∧ Hid (Halves T S M L) ∧ M.length + L.length ≤ 2000 ∧ Hid (Kpt w wr2)) (fun m l _ _ => sliceLen m + sliceLen l)
      case atStart => exact ⟨_, _, 0, rfl, HM.out, HL.out, HS.out, PN.out, HK.out⟩
      case round =>
        obtain ⟨M, L, S, rfl, HM, HL, HS2, hn, HK2⟩ := hrel
        obtain ⟨am, nm, cm, rfl, EM, bm⟩ := HM.out.slot
        obtain ⟨al, nl, cl, rfl, EL, bl⟩ := HL.out.slot
        have bsum : nm + nl ≤ 2000 := by rw [EM.out, EL.out]; exact hn
        have HN := Lib.hid hn
        clear hn
        have bs := HS2.out.lo; have bs' := HS2.out.hi
        by_cases h0 : nm = 0
        · have HM0 := Lib.hid (HM.out.nil h0)
          subst h0
          by_cases h1 : nl = 0
          · have HL0 := Lib.hid (HL.out.nil h1)
            subst h1
            have HT : Hid (S = T) := halves_end (by have := HS2.out; rw [HM0.out, HL0.out] at this; exact this)
            have e := HT.out
            clear HT
            subst e
            cases hA : amtB S with
            | true =>
              have AC := Lib.hid (fun W => rck_ok S W hA)
              have HA := Lib.hid hA
              clear hA
              go_wp2_with (go_at_call 108; (with_reducible refine (AC.out _).mono ?_); rintro e w' ⟨rfl, rfl⟩)
              go_ret2
              exact ⟨HK2.out, .inl ⟨HA.out, rfl⟩⟩
            | false =>
              have AC := Lib.hid (fun W => rck_no S W hA)
              have HA := Lib.hid hA
              clear hA
              go_wp2_with (go_at_call 108; (with_reducible refine (AC.out _).mono ?_); rintro e w' ⟨rfl, rfl⟩)
              go_ret2
              exact ⟨HK2.out, .inr ⟨HA.out, S, rfl⟩⟩
          · have n1 : ((nl : Int) == 0) = false := beq_eq_false_iff_ne.2 (by omega)
            have n2 : 0 < nl := by omega
            obtain ⟨b, off, z, R, rfl, HE, hcap, hcm, c0, hone, hmore⟩ := HL.out.cut h1
            have HU := halves_dn (z := z) (L := R) (by rw [← HE.out]; exact HS2.out) (.inl HM0.out)
            have hz := HS2.out.dn z (by rw [HE.out]; simp)
            by_cases c1 : cl = 1
            · obtain ⟨u1, hmz⟩ := hone c1
              subst c1; subst u1
              clear hone hmore
              obtain ⟨q1, ⟨q2, HH⟩ | ⟨q2, HB⟩⟩ := HU
              · have HH2 := Lib.hid HH; clear HH
                go_wp2_with (go_at_call 61; (with_reducible refine (rbtw_t _ _ _ _ (by omega) (by omega)).mono ?_); rintro e w' ⟨rfl, rfl⟩)
                go_roundw
                case rel => exact ⟨M, R, S + z, rfl, HM.out, (by unfold Hid; rw [hmz.out]; exact rdsN_nil _ _ _ (by omega)), HH2.out, (by have := HN.out; rw [HE.out] at this; simp at this; omega), HK2.out⟩
                case measure => first | (simp [sliceLen]; done) | (simp [sliceLen]; omega)
              · have HB2 := Lib.hid HB; clear HB
                go_wp2_with (go_at_call 61; (with_reducible refine (rbtw_f _ _ _ _ (by omega)).mono ?_); rintro e w' ⟨rfl, rfl⟩)
                all_goals
                  go_ret2
                  exact ⟨HK2.out, .inr ⟨HB2.out, 0, rfl⟩⟩
            · have HMo := hmore c1
              clear hone hmore
              obtain ⟨q1, ⟨q2, HH⟩ | ⟨q2, HB⟩⟩ := HU
              · have HH2 := Lib.hid HH; clear HH
                go_wp2_with (go_at_call 61; (with_reducible refine (rbtw_t _ _ _ _ (by omega) (by omega)).mono ?_); rintro e w' ⟨rfl, rfl⟩)
                go_roundw
                case rel => exact ⟨M, R, S + z, rfl, HM.out, HMo.out, HH2.out, (by have := HN.out; rw [HE.out] at this; simp at this; omega), HK2.out⟩
                case measure => first | (simp [sliceLen]; done) | (simp [sliceLen]; omega)
              · have HB2 := Lib.hid HB; clear HB
                go_wp2_with (go_at_call 61; (with_reducible refine (rbtw_f _ _ _ _ (by omega)).mono ?_); rintro e w' ⟨rfl, rfl⟩)
                all_goals
                  go_ret2
                  exact ⟨HK2.out, .inr ⟨HB2.out, 0, rfl⟩⟩
        · by_cases h1 : nl = 0
          · have HL0 := Lib.hid (HL.out.nil h1)
            subst h1
            have n2 : 0 < nm := by omega
            obtain ⟨b, off, z, R, rfl, HE, hcap, hcm, c0, hone, hmore⟩ := HM.out.cut h0
            have HU := halves_up (z := z) (M := R) (by rw [← HE.out]; exact HS2.out) (.inl HL0.out)
            have hz := HS2.out.up z (by rw [HE.out]; simp)
            by_cases c1 : cm = 1
            · obtain ⟨u1, hmz⟩ := hone c1
              subst c1; subst u1
              clear hone hmore
              obtain ⟨q1, ⟨q2, HH⟩ | ⟨q2, HB⟩⟩ := HU
              · have HH2 := Lib.hid HH; clear HH
                go_wp2_with (go_at_call 61; (with_reducible refine (rbtw_t _ _ _ _ (by omega) (by omega)).mono ?_); rintro e w' ⟨rfl, rfl⟩)
                go_roundw
                case rel => exact ⟨R, L, S + z, rfl, (by unfold Hid; rw [hmz.out]; exact rdsN_nil _ _ _ (by omega)), HL.out, HH2.out, (by have := HN.out; rw [HE.out] at this; simp at this; omega), HK2.out⟩
                case measure => first | (simp [sliceLen]; done) | (simp [sliceLen]; omega)
              · have HB2 := Lib.hid HB; clear HB
                go_wp2_with (go_at_call 61; (with_reducible refine (rbtw_f _ _ _ _ (by omega)).mono ?_); rintro e w' ⟨rfl, rfl⟩)
                all_goals
                  go_ret2
                  exact ⟨HK2.out, .inr ⟨HB2.out, 0, rfl⟩⟩
            · have HMo := hmore c1
              clear hone hmore
              obtain ⟨q1, ⟨q2, HH⟩ | ⟨q2, HB⟩⟩ := HU
              · have HH2 := Lib.hid HH; clear HH
                go_wp2_with (go_at_call 61; (with_reducible refine (rbtw_t _ _ _ _ (by omega) (by omega)).mono ?_); rintro e w' ⟨rfl, rfl⟩)
                go_roundw
                case rel => exact ⟨R, L, S + z, rfl, HMo.out, HL.out, HH2.out, (by have := HN.out; rw [HE.out] at this; simp at this; omega), HK2.out⟩
                case measure => first | (simp [sliceLen]; done) | (simp [sliceLen]; omega)
              · have HB2 := Lib.hid HB; clear HB
                go_wp2_with (go_at_call 61; (with_reducible refine (rbtw_f _ _ _ _ (by omega)).mono ?_); rintro e w' ⟨rfl, rfl⟩)
                all_goals
                  go_ret2
                  exact ⟨HK2.out, .inr ⟨HB2.out, 0, rfl⟩⟩
          · have n1 : ((nl : Int) == 0) = false := beq_eq_false_iff_ne.2 (by omega)
            have n2 : 0 < nm := by omega
            have n3 : 0 < nl := by omega
            have n4 : (0 : Int) < (nm : Int) := by omega
            by_cases hs : S ≤ 0
            · obtain ⟨b, off, z, R, rfl, HE, hcap, hcm, c0, hone, hmore⟩ := HM.out.cut h0
              have HU := halves_up (z := z) (M := R) (by rw [← HE.out]; exact HS2.out) (.inr hs)
              have hz := HS2.out.up z (by rw [HE.out]; simp)
              by_cases c1 : cm = 1
              · obtain ⟨u1, hmz⟩ := hone c1
                subst c1; subst u1
                clear hone hmore
                obtain ⟨q1, ⟨q2, HH⟩ | ⟨q2, HB⟩⟩ := HU
                · have HH2 := Lib.hid HH; clear HH
                  go_wp2_with (go_at_call 61; (with_reducible refine (rbtw_t _ _ _ _ (by omega) (by omega)).mono ?_); rintro e w' ⟨rfl, rfl⟩)
                  go_roundw
                  case rel => exact ⟨R, L, S + z, rfl, (by unfold Hid; rw [hmz.out]; exact rdsN_nil _ _ _ (by omega)), HL.out, HH2.out, (by have := HN.out; rw [HE.out] at this; simp at this; omega), HK2.out⟩
                  case measure => first | (simp [sliceLen]; done) | (simp [sliceLen]; omega)
                · have HB2 := Lib.hid HB; clear HB
                  go_wp2_with (go_at_call 61; (with_reducible refine (rbtw_f _ _ _ _ (by omega)).mono ?_); rintro e w' ⟨rfl, rfl⟩)
                  all_goals
                    go_ret2
                    exact ⟨HK2.out, .inr ⟨HB2.out, 0, rfl⟩⟩
              · have HMo := hmore c1
                clear hone hmore
                obtain ⟨q1, ⟨q2, HH⟩ | ⟨q2, HB⟩⟩ := HU
                · have HH2 := Lib.hid HH; clear HH
                  go_wp2_with (go_at_call 61; (with_reducible refine (rbtw_t _ _ _ _ (by omega) (by omega)).mono ?_); rintro e w' ⟨rfl, rfl⟩)
                  go_roundw
                  case rel => exact ⟨R, L, S + z, rfl, HMo.out, HL.out, HH2.out, (by have := HN.out; rw [HE.out] at this; simp at this; omega), HK2.out⟩
                  case measure => first | (simp [sliceLen]; done) | (simp [sliceLen]; omega)
                · have HB2 := Lib.hid HB; clear HB
                  go_wp2_with (go_at_call 61; (with_reducible refine (rbtw_f _ _ _ _ (by omega)).mono ?_); rintro e w' ⟨rfl, rfl⟩)
                  all_goals
                    go_ret2
                    exact ⟨HK2.out, .inr ⟨HB2.out, 0, rfl⟩⟩
            · have hs' : decide (S ≤ 0) = false := decide_eq_false hs
              obtain ⟨b, off, z, R, rfl, HE, hcap, hcm, c0, hone, hmore⟩ := HL.out.cut h1
              have HU := halves_dn (z := z) (L := R) (by rw [← HE.out]; exact HS2.out) (.inr (by omega))
              have hz := HS2.out.dn z (by rw [HE.out]; simp)
              by_cases c1 : cl = 1
              · obtain ⟨u1, hmz⟩ := hone c1
                subst c1; subst u1
                clear hone hmore
                obtain ⟨q1, ⟨q2, HH⟩ | ⟨q2, HB⟩⟩ := HU
                · have HH2 := Lib.hid HH; clear HH
                  go_wp2_with (go_at_call 61; (with_reducible refine (rbtw_t _ _ _ _ (by omega) (by omega)).mono ?_); rintro e w' ⟨rfl, rfl⟩)
                  go_roundw
                  case rel => exact ⟨M, R, S + z, rfl, HM.out, (by unfold Hid; rw [hmz.out]; exact rdsN_nil _ _ _ (by omega)), HH2.out, (by have := HN.out; rw [HE.out] at this; simp at this; omega), HK2.out⟩
                  case measure => first | (simp [sliceLen]; done) | (simp [sliceLen]; omega)
                · have HB2 := Lib.hid HB; clear HB
                  go_wp2_with (go_at_call 61; (with_reducible refine (rbtw_f _ _ _ _ (by omega)).mono ?_); rintro e w' ⟨rfl, rfl⟩)
                  all_goals
                    go_ret2
                    exact ⟨HK2.out, .inr ⟨HB2.out, 0, rfl⟩⟩
              · have HMo := hmore c1
                clear hone hmore
                obtain ⟨q1, ⟨q2, HH⟩ | ⟨q2, HB⟩⟩ := HU
                · have HH2 := Lib.hid HH; clear HH
                  go_wp2_with (go_at_call 61; (with_reducible refine (rbtw_t _ _ _ _ (by omega) (by omega)).mono ?_); rintro e w' ⟨rfl, rfl⟩)
                  go_roundw
                  case rel => exact ⟨M, R, S + z, rfl, HM.out, HMo.out, HH2.out, (by have := HN.out; rw [HE.out] at this; simp at this; omega), HK2.out⟩
                  case measure => first | (simp [sliceLen]; done) | (simp [sliceLen]; omega)
                · have HB2 := Lib.hid HB; clear HB
                  go_wp2_with (go_at_call 61; (with_reducible refine (rbtw_f _ _ _ _ (by omega)).mono ?_); rintro e w' ⟨rfl, rfl⟩)
                  all_goals
                    go_ret2
                    exact ⟨HK2.out, .inr ⟨HB2.out, 0, rfl⟩⟩

end Go.Proofs.Ytgccipmeiceonaa

-- SumOfO
namespace Go.Proofs.Ytgccipmeiceonaa
open Go.RowKit
set_option linter.unusedVariables false

theorem ow_kpt {w w' : World} {base : Nat} {v : Value} {zs : List Int} (h : Owns w base v zs) (g : Kpt w w') : Owns w' base v zs := h.below g (Nat.le_refl _)
theorem sumOw {w : World} {base : Nat} (v : Value) (zs : List Int) (S : Int) (h : Owns w base v zs) (hm : zs.length ≤ 1000) (ha : ∀ z ∈ zs, amtB z = true) (hS : zs.sum = S) (hA : amtB S = true) :
    Calls Try.prog 85 #[v] w fun e w' => e = .returned (.tuple #[.int .i64 S, .bool true]) ∧ Kpt w w' := by
  obtain ⟨_, _, _, hr⟩ := h.reads
  refine (sumOf_any v zs w hr hm ha).mono ?_
  rintro e w' ⟨hk, ⟨_, rfl⟩ | ⟨hx, _⟩⟩
  · exact ⟨by rw [hS], hk⟩
  · rw [hS, hA] at hx; cases hx
theorem sumNo {w : World} {base : Nat} (v : Value) (zs : List Int) (S : Int) (h : Owns w base v zs) (hm : zs.length ≤ 1000) (ha : ∀ z ∈ zs, amtB z = true) (hS : zs.sum = S) (hA : amtB S = false) :
    Calls Try.prog 85 #[v] w fun e w' => ∃ r : Int, e = .returned (.tuple #[.int .i64 r, .bool false]) ∧ Kpt w w' := by
  obtain ⟨_, _, _, hr⟩ := h.reads
  refine (sumOf_any v zs w hr hm ha).mono ?_
  rintro e w' ⟨hk, ⟨hx, _⟩ | ⟨_, r, rfl⟩⟩
  · rw [hS, hA] at hx; cases hx
  · exact ⟨r, rfl, hk⟩

end Go.Proofs.Ytgccipmeiceonaa
