/-
  What checkIndices, lastFrom, whole and Check of package grid do.
-/
import Derived.Test.YtbfeojdlaajpdaaGridA
namespace Go.Proofs.Ytbfeojdlaajpdaa
open Go.RowKit
set_option linter.unusedVariables false

/-- the error of the first index that stands wrong; b is the one before -/
def idxE (n : Int) : Int → List Int → Int
  | _, [] => 0
  | b, z :: l => if 0 ≤ z ∧ z < n then (if z ≤ b then 4 else idxE n z l) else 3
def idxsE (n : Int) (d : List Int) : Int := if n < (d.length : Int) then 2 else idxE n (-1) d
theorem idx_no {n b z : Int} {l : List Int} (h : ¬ (0 ≤ z ∧ z < n)) : idxE n b (z :: l) = 3 := by rw [idxE, if_neg h]
theorem idx_st {n b z : Int} {l : List Int} (h : 0 ≤ z ∧ z < n) (h2 : z ≤ b) : idxE n b (z :: l) = 4 := by rw [idxE, if_pos h, if_pos h2]
theorem idx_ok {n b z : Int} {l : List Int} (h : 0 ≤ z ∧ z < n) (h2 : ¬ z ≤ b) : idxE n b (z :: l) = idxE n z l := by rw [idxE, if_pos h, if_neg h2]
theorem int_drop {l : List Int} {k : Nat} (hk : k < l.length) : l.drop k = l.getD k 0 :: l.drop (k + 1) := by
  rw [List.drop_eq_getElem_cons hk, List.getD_eq_getElem?_getD, List.getElem?_eq_getElem hk]; rfl
theorem Reads.fitAt {w : World} {v : Value} {zs : List Int} (hr : Reads w v zs) : ∀ k, k < zs.length → ∃ b off, v = .slice (some ⟨b, off, none⟩) zs.length (match v with | .slice _ _ c => c | _ => 0) ∧ w.cell? ⟨b, off + k, none⟩ = some (.int .i64 (zs.getD k 0)) := by
  intro k hk
  rcases hr.cell with ⟨rfl, _⟩ | ⟨_, b, off, cap, rfl, hc⟩
  · simp at hk
  · exact ⟨b, off, rfl, hc k hk⟩

set_option maxHeartbeats 2000000 in
theorem idxs_run (v : Value) (zs : List Int) (n : Nat) (w : World) (hr : Reads w v zs) (hn : n ≤ maxLen) : Calls Try.prog 50 #[v, .int .i64 n] w fun e w' => e = .returned (.int .i64 (idxsE n zs)) ∧ Kpt w w' := by
  have hl := hr.len
  unfold maxLen at hl hn
  have HC := Lib.hid (Reads.fitAt hr)
  obtain ⟨a, cap, rfl, -⟩ := id hr
  unfold Hid at HC
  simp only at HC
  have HC := Lib.hid HC
  clear hr
  by_cases hmany : n < zs.length
  · have HX : Hid (idxsE n zs = 2) := by unfold Hid idxsE; rw [if_pos (by omega)]
    go_enter Try.func50, Try.ntmps50
    go_wp2
    go_ret
    exact ⟨ret_int HX.out.symm, Kpt.refl _⟩
  have HE0 : Hid (idxsE n zs = idxE n (-1) zs) := by unfold Hid idxsE; rw [if_neg (by omega)]
  go_enter Try.func50, Try.ntmps50
  go_wp2
  go_loopw [5, 14] (fun b i wr => ∃ (k : Nat) (z0 : Int), k ≤ zs.length ∧ b = .int .i64 z0 ∧ i = .int .i64 k ∧ -1 ≤ z0 ∧ z0 ≤ 9223372036854775807 ∧ Hid (idxsE n zs = idxE n z0 (zs.drop k)) ∧ Hid (Kpt w wr)) (fun _ i _ => zs.length - (intOf i).toNat)
  case atStart => exact ⟨0, -1, Nat.zero_le _, rfl, rfl, by omega, by omega, HE0.out, Kpt.refl _⟩
  case round =>
    obtain ⟨k, z0, hk, rfl, rfl, hz0, hz1, HE, HK⟩ := hrel
    by_cases hlt : k < zs.length
    · obtain ⟨b, off, e, hc⟩ := HC.out k hlt
      injection e with e1 _ _
      subst e1
      have c0 := HK.out.cell hc
      have hd := int_drop hlt
      clear hc
      generalize zs.getD k 0 = z at c0 hd
      have HD : Hid (idxsE n zs = idxE n z0 (z :: zs.drop (k + 1))) := by unfold Hid; rw [HE.out, hd]
      clear hd
      by_cases hb : 0 ≤ z ∧ z < n
      · obtain ⟨b0, b1⟩ := id hb
        have b0' : decide (z < 0) = false := decide_eq_false (by omega)
        by_cases hs : z ≤ z0
        · have HX : Hid (idxsE n zs = 4) := by unfold Hid; rw [HD.out, idx_st hb hs]
          clear hb
          go_wp2
          go_ret
          exact ⟨ret_int HX.out.symm, HK.out⟩
        · have HX : Hid (idxsE n zs = idxE n z (zs.drop (k + 1))) := by unfold Hid; rw [HD.out, idx_ok hb hs]
          clear hb
          go_wp2
          go_roundw
          case rel => exact ⟨k + 1, z, by omega, rfl, by go_num, by omega, by omega, HX.out, HK.out⟩
          case measure => simp [intOf]; omega
      · have HX : Hid (idxsE n zs = 3) := by unfold Hid; rw [HD.out, idx_no hb]
        by_cases h0 : z < 0
        · clear hb
          go_wp2
          go_ret
          exact ⟨ret_int HX.out.symm, HK.out⟩
        · have h0' : decide (z < 0) = false := decide_eq_false h0
          have h1 : (n : Int) ≤ z := by omega
          clear hb
          go_wp2
          go_ret
          exact ⟨ret_int HX.out.symm, HK.out⟩
    · have HX : Hid (idxsE n zs = 0) := by unfold Hid; rw [HE.out, List.drop_eq_nil_of_le (by omega)]; rfl
      go_wp2
      go_ret
      exact ⟨ret_int HX.out.symm, HK.out⟩

set_option maxHeartbeats 2000000 in
theorem last_run (party : Int) (vl v : Value) (ps : List (Int × Int × Int)) (zs : List Int) (k : Nat) (w : World) (hp : ReadsP w vl ps) (hr : Reads w v zs) (hin : ∀ j, j < zs.length → 0 ≤ zs.getD j 0 ∧ zs.getD j 0 < ps.length)
    (hk : k < zs.length) (h1 : (ps.getD (zs.getD k 0).toNat default).1 = party) (h2 : ∀ j, k < j → j < zs.length → (ps.getD (zs.getD j 0).toNat default).1 ≠ party) :
    Calls Try.prog 48 #[.int .i64 party, vl, v] w fun e w' => e = .returned (.int .i64 (k : Int)) ∧ Kpt w w' := by
  have hl := hr.len
  have hlp := hp.len
  unfold maxLen at hl hlp
  rcases hr.cell with ⟨rfl, _⟩ | ⟨_, b, off, cap, rfl, hc⟩
  · simp at hk
  obtain ⟨pa, pcap, rfl, -, -, -, hpc⟩ := hp
  have HC := Lib.hid hc
  have HP := Lib.hid hpc
  have HI := Lib.hid hin
  have H1 := Lib.hid h1
  have H2 := Lib.hid h2
  clear hc hpc hin h1 h2 hr
  go_enter Try.func48, Try.ntmps48
  go_wp2
  go_loopw [7] (fun i wr => ∃ m : Nat, k ≤ m ∧ m < zs.length ∧ i = .int .i64 (m : Int) ∧ Hid (Kpt w wr)) (fun i _ => (intOf i).toNat)
  case atStart => exact ⟨zs.length - 1, by omega, by omega, by go_num, Kpt.refl _⟩
  case round =>
    obtain ⟨m, hkm, hm, rfl, HK⟩ := hrel
    have c0 := HK.out.cell (HC.out m hm)
    obtain ⟨i0, i1⟩ := HI.out m hm
    have hz : Hid (m = k → (ps.getD (zs.getD m 0).toNat default).1 = party) := fun e => by rw [e]; exact H1.out
    have hz2 : Hid (¬ m = k → (ps.getD (zs.getD m 0).toNat default).1 ≠ party) := fun e => H2.out m (by omega) hm
    generalize zs.getD m 0 = z at c0 i0 i1 hz hz2
    obtain ⟨q, rfl⟩ : ∃ q : Nat, z = (q : Int) := ⟨z.toNat, by omega⟩
    simp only [Int.toNat_natCast] at hz hz2
    have hq : q < ps.length := by omega
    obtain ⟨x, xo, rfl, hpt⟩ := HP.out q hq
    have c1 := HK.out.cell hpt.1
    clear hpt
    generalize (ps.getD q default).1 = F at c1 hz hz2
    by_cases he : m = k
    · have hF := hz.out he
      have HF : Hid (m = k) := he
      clear he hz hz2
      subst hF
      go_wp2
      go_ret
      exact ⟨ret_int (by rw [HF.out]), HK.out⟩
    · have hF := hz2.out he
      clear hz hz2
      go_wp2
      go_roundw
      case rel => exact ⟨m - 1, by omega, by omega, by go_num, HK.out⟩
      case measure => simp [intOf]; omega

theorem duesS_take {ps : List (Int × Int × Int)} {k : Nat} (hk : k < ps.length) : duesS (ps.take (k + 1)) = duesS (ps.take k) + (ps.getD k default).2.2 := by
  rw [List.take_succ_eq_append_getElem hk, duesS_append, List.getD_eq_getElem?_getD, List.getElem?_eq_getElem hk]
  simp [duesS]
theorem okS_whole {S : Int} {ps : List (Int × Int × Int)} (hS : 0 ≤ S ∧ S ≤ 1152921504606846976 * 31) (h : ∀ p ∈ ps, dueO p) (hn : ps.length ≤ 60) (k : Nat) : okS (S + duesS (ps.take k)) := by
  have h1 := duesS_bd (l := ps.take k) fun p hp => h p (List.mem_of_mem_take hp)
  have h2 : (ps.take k).length ≤ 60 := by rw [List.length_take]; omega
  exact okS_mk (k := 91) (by omega) (by omega) (by omega)

end Go.Proofs.Ytbfeojdlaajpdaa
