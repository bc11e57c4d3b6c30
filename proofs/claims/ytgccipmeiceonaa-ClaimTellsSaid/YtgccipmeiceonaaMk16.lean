/-
  Merged: RefFail3.
-/
import Derived.Test.YtgccipmeiceonaaMk15
import Derived.Test.YtgccipmeiceonaaMk11
import Derived.Deep.QuietTactic
import Derived.BigQuiet
-- RefFail3
namespace Go.Proofs.Ytgccipmeiceonaa
open Go.RowKit
set_option linter.unusedVariables false

theorem mem_ids {fs : List (List Int)} {k : Nat} (hk : k ≤ fs.length) {id : Int} : id ∈ idsOf (fs.take k) ↔ ∃ j, j < k ∧ (fs.getD j []).getD 0 0 = id := by
  unfold idsOf
  rw [List.mem_map]
  constructor
  · rintro ⟨l, hl, rfl⟩
    obtain ⟨j, hj, rfl⟩ := List.mem_iff_getElem.1 hl
    rw [List.length_take] at hj
    refine ⟨j, by omega, ?_⟩
    rw [List.getElem_take, List.getD_eq_getElem?_getD (l := fs), List.getElem?_eq_getElem (by omega)]; rfl
  · rintro ⟨j, hj, rfl⟩
    refine ⟨fs[j]'(by omega), ?_, ?_⟩
    · exact List.mem_iff_getElem.2 ⟨j, by rw [List.length_take]; omega, by rw [List.getElem_take]⟩
    · rw [List.getD_eq_getElem?_getD (l := fs), List.getElem?_eq_getElem (by omega)]; rfl

set_option maxRecDepth 100000 in
set_option maxHeartbeats 4000000 in
theorem rfcs_run (v : Value) (fs : List (List Int)) (w : World) (hr : ReadsF w v fs) :
    Calls Try.prog 86 #[v] w fun e w' => e = .returned (.int .i64 (checksE fs)) ∧ Kpt w w' := by
  obtain ⟨a, cap, rfl, hm, -, hc⟩ := hr
  unfold maxLen at hm
  have HC := Lib.hid hc
  obtain ⟨n, hn⟩ : ∃ n, n = fs.length := ⟨_, rfl⟩
  by_cases h60 : 60 < fs.length
  · have HX : Hid (checksE fs = 2) := by unfold Hid checksE; rw [if_pos h60]
    rw [← hn] at h60 HC hm ⊢
    have y1 : decide ((60 : Int) < (n : Int)) = true := decide_eq_true (by omega)
    have y2 : (60 : Int) < (n : Int) := by omega
    clear hc hn
    go_enter Try.func86, Try.ntmps86
    go_wp2
    go_ret
    exact ⟨ret_int HX.out.symm, Kpt.refl _⟩
  have HX : Hid (checksE fs = idsE (idsOf (fs.take 0)) (fs.drop 0)) := by unfold Hid checksE; rw [if_neg h60]; rfl
  have DR := Lib.hid (fun k (h : k < fs.length) => drop_at h)
  have IS := Lib.hid (fun k (h : k < fs.length) => idsOf_s h)
  have MI := Lib.hid (fun k (h : k ≤ fs.length) id => mem_ids (fs := fs) h (id := id))
  have DA : Hid (fs.drop n = []) := by unfold Hid; rw [hn, List.drop_length]
  rw [← hn] at h60 HC hm DR IS MI ⊢
  have y1 : decide ((60 : Int) < (n : Int)) = false := decide_eq_false (by omega)
  have y2 : ¬ (60 : Int) < (n : Int) := by omega
  clear hc hn
  go_enter Try.func86, Try.ntmps86
  go_wp2
  go_loopw [3, 4, 5] (fun ii _ _ wr => ∃ k : Nat, k ≤ n ∧ ii = .int .i64 (k : Int) ∧ Hid (checksE fs = idsE (idsOf (fs.take k)) (fs.drop k)) ∧ Hid (Kpt w wr)) (fun ii _ _ _ => n - (intOf ii).toNat)
  case atStart => exact ⟨0, Nat.zero_le _, rfl, HX.out, Kpt.refl _⟩
  case round =>
    obtain ⟨k, hk, rfl, HE, HK⟩ := hrel
    by_cases hlt : k < n
    · obtain ⟨g, off, rfl, hfl⟩ := HC.out k hlt
      have HQ : Hid (∀ j, j < n → FlAt w g (off + j * 10) (fs.getD j [])) := fun j hj => by
        obtain ⟨b', off', e, h'⟩ := HC.out j hj
        simp only [Option.some.injEq, Addr.mk.injEq] at e
        obtain ⟨rfl, rfl, -⟩ := e
        exact h'
      have hf := hfl.kpt HK.out
      have dr := DR.out k hlt
      have is' := IS.out k hlt
      have mi := MI.out k (by omega) ((fs.getD k []).getD 0 0)
      have he := HE.out
      rw [dr] at he
      unfold idsE failEL at he
      have H0 : Hid (FlAt w g (off + k * 10) (fs.getD k [])) := hfl
      clear hfl HE
      obtain ⟨ID, hID⟩ : ∃ ID, ID = (fs.getD k []).getD 0 0 := ⟨_, rfl⟩
      have d0 : Hid (w.cell? ⟨g, off + k * 10, none⟩ = some (.int .i64 ID)) := by rw [hID]; exact H0.out 0 (by omega)
      clear H0
      rw [← hID] at he mi is'
      rw [is'.symm] at he
      have CK := Lib.hid (fun w' => rfc_run ID ((fs.getD k []).getD 1 0) ((fs.getD k []).getD 2 0) ((fs.getD k []).getD 3 0) ((fs.getD k []).getD 4 0) ((fs.getD k []).getD 5 0) ((fs.getD k []).getD 6 0) ((fs.getD k []).getD 7 0) ((fs.getD k []).getD 8 0) ((fs.getD k []).getD 9 0) w')
      have c0 : wr.cell? ⟨g, off + k * 10, none⟩ = _ := hf 0 (by omega)
      have c1 : wr.cell? ⟨g, off + k * 10 + 1, none⟩ = _ := hf 1 (by omega)
      have c2 : wr.cell? ⟨g, off + k * 10 + 2, none⟩ = _ := hf 2 (by omega)
      have c3 : wr.cell? ⟨g, off + k * 10 + 3, none⟩ = _ := hf 3 (by omega)
      have c4 : wr.cell? ⟨g, off + k * 10 + 4, none⟩ = _ := hf 4 (by omega)
      have c5 : wr.cell? ⟨g, off + k * 10 + 5, none⟩ = _ := hf 5 (by omega)
      have c6 : wr.cell? ⟨g, off + k * 10 + 6, none⟩ = _ := hf 6 (by omega)
      have c7 : wr.cell? ⟨g, off + k * 10 + 7, none⟩ = _ := hf 7 (by omega)
      have c8 : wr.cell? ⟨g, off + k * 10 + 8, none⟩ = _ := hf 8 (by omega)
      have c9 : wr.cell? ⟨g, off + k * 10 + 9, none⟩ = _ := hf 9 (by omega)
      rw [← hID] at c0
      clear hID hf dr is'
      generalize (fs.getD k []).getD 1 0 = f at *
      generalize (fs.getD k []).getD 2 0 = t at *
      generalize (fs.getD k []).getD 3 0 = c at *
      generalize (fs.getD k []).getD 4 0 = p at *
      generalize (fs.getD k []).getD 5 0 = d at *
      generalize (fs.getD k []).getD 6 0 = u at *
      generalize (fs.getD k []).getD 7 0 = x at *
      generalize (fs.getD k []).getD 8 0 = b at *
      generalize (fs.getD k []).getD 9 0 = y at *
      generalize failE ID f t c p d u x b y = E at *
      by_cases h1 : E = 0
      · have z1 : (E != 0) = false := by rw [h1]; rfl
        rw [if_neg (by omega)] at he
        have HE1 := Lib.hid he
        have HMI := Lib.hid mi
        clear he h1 mi
        go_wp2_with (go_at_call 78; (with_reducible refine (CK.out _).mono ?_); rintro e w1 ⟨rfl, k1⟩; have K1 := Lib.hid (ktr HK.out k1); clear k1)
        clear c0 c1 c2 c3 c4 c5 c6 c7 c8 c9
        go_loopw [5] (fun jj wr => ∃ j : Nat, j ≤ k ∧ jj = .int .i64 (j : Int) ∧ Hid (∀ j', j' < j → (fs.getD j' []).getD 0 0 ≠ ID) ∧ Hid (Kpt w wr)) (fun jj _ => k - (intOf jj).toNat)
        case atStart => exact ⟨0, Nat.zero_le _, rfl, (fun j' h => absurd h (Nat.not_lt_zero _)), K1.out⟩
        case round =>
          obtain ⟨j, hj, rfl, HN, HK2⟩ := hrel
          by_cases hlt2 : j < k
          · have d1 := HK2.out.cell d0.out
            have d2 : World.cell? _ ⟨g, off + j * 10, none⟩ = _ := ((HQ.out j (by omega)).kpt HK2.out) 0 (by omega)
            have HM2 : Hid ((fs.getD j []).getD 0 0 = ID → ID ∈ idsOf (fs.take k)) := fun e => HMI.out.2 ⟨j, hlt2, e⟩
            have HN2 : Hid ((fs.getD j []).getD 0 0 ≠ ID → ∀ j', j' < j + 1 → (fs.getD j' []).getD 0 0 ≠ ID) := fun e j' hj' => by
              rcases Nat.lt_or_ge j' j with q | q
              · exact HN.out j' q
              · obtain rfl : j' = j := by omega
                exact e
            generalize (fs.getD j []).getD 0 0 = id2 at *
            have jn : (j : Int) < (n : Int) := by omega
            have kn : (k : Int) < (n : Int) := by omega
            by_cases h2 : id2 = ID
            · have z2 : (id2 == ID) = true := beq_iff_eq.2 h2
              have HR : Hid (checksE fs = 6) := by
                have := HE1.out; rw [if_pos (HM2.out h2)] at this; exact this
              clear h2
              go_wp2
              go_quiet (fail)
              go_wp2
              go_ret
              exact ⟨ret_int HR.out.symm, HK2.out.drewN _⟩
            · have z2 : (id2 == ID) = false := beq_eq_false_iff_ne.2 h2
              have HN3 := Lib.hid (HN2.out h2)
              clear h2
              go_wp2
              go_quiet (fail)
              go_wp2
              go_roundw
              case rel => exact ⟨j + 1, by omega, by go_num, HN3.out, HK2.out.drewN _⟩
              case measure => simp [intOf]; omega
          · obtain rfl : j = k := by omega
            have HR : Hid (checksE fs = idsE (idsOf (fs.take (j + 1))) (fs.drop (j + 1))) := by
              have := HE1.out
              rw [if_neg (fun hm => by obtain ⟨j', h1, h2⟩ := HMI.out.1 hm; exact HN.out j' h1 h2)] at this
              exact this
            go_wp2
            go_roundw
            case rel => exact ⟨j + 1, by omega, by go_num, HR.out, HK2.out⟩
            case measure => simp [intOf]; omega
      · have z1 : (E != 0) = true := bne_iff_ne.2 h1
        rw [if_pos h1] at he
        have HE1 := Lib.hid he
        clear he h1 mi
        go_wp2_with (go_at_call 78; (with_reducible refine (CK.out _).mono ?_); rintro e w1 ⟨rfl, k1⟩; have K1 := Lib.hid (ktr HK.out k1); clear k1)
        go_ret
        exact ⟨ret_int HE1.out.symm, K1.out⟩
    · obtain rfl : k = n := by omega
      rw [DA.out] at HE
      go_wp2
      go_ret
      exact ⟨ret_int HE.out.symm, HK.out⟩

end Go.Proofs.Ytgccipmeiceonaa
