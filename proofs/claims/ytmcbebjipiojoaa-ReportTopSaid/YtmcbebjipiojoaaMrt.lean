/-
  Merged: RefFail3, RefTop, LawRT.
-/
import Derived.Test.YtmcbebjipiojoaaRefFail2
import Derived.Test.YtmcbebjipiojoaaM8
import Derived.Deep.QuietTactic
import Derived.BigQuiet
import Derived.Test.YtmcbebjipiojoaaMb
import Derived.Test.YtmcbebjipiojoaaRefPart2
import Derived.Test.YtmcbebjipiojoaaQuietK
import Derived.Test.YtmcbebjipiojoaaSl
import Derived.Deep.Cut
import Derived.Test.YtmcbebjipiojoaaIdsOk
-- RefFail3
namespace Go.Proofs.Ytmcbebjipiojoaa
open Go.RowKit
set_option linter.unusedVariables false

set_option maxHeartbeats 2000000 in
theorem rff_run (v : Value) (fs : List (List Int)) (id : Int) (w : World) (hr : ReadsF w v fs) :
    Calls Try.prog 24 #[v, .int .i64 id] w fun e w' => e = .returned (.int .i64 (idxF id fs 0)) ∧ Kpt w w' := by
  obtain ⟨a, cap, rfl, hm, -, hc⟩ := hr
  unfold maxLen at hm
  have HC := Lib.hid hc
  have DR := Lib.hid (fun k (h : k < fs.length) => drop_at h)
  have HX : Hid (idxF id fs 0 = idxF id (fs.drop 0) 0) := rfl
  have DA : Hid (fs.drop fs.length = []) := List.drop_length
  obtain ⟨n, hn⟩ : ∃ n, n = fs.length := ⟨_, rfl⟩
  rw [← hn] at HC hm DR DA ⊢
  clear hc hn
  go_enter Try.func24, Try.ntmps24
  go_wp2
  go_loopw [5] (fun ii wr => ∃ k : Nat, k ≤ n ∧ ii = .int .i64 (k : Int) ∧ Hid (idxF id fs 0 = idxF id (fs.drop k) k) ∧ Hid (Kpt w wr)) (fun ii _ => n - (intOf ii).toNat)
  case atStart => exact ⟨0, Nat.zero_le _, rfl, HX.out, Kpt.refl _⟩
  case round =>
    obtain ⟨k, hk, rfl, HE, HK⟩ := hrel
    by_cases hlt : k < n
    · obtain ⟨g, off, rfl, hfl⟩ := HC.out k hlt
      have hf := hfl.kpt HK.out
      have dr := DR.out k hlt
      have he : idxF id fs 0 = (if (fs.getD k []).getD 0 0 = id then (k : Int) else idxF id (fs.drop (k + 1)) (k + 1)) := HE.out.trans (by rw [dr]; rfl)
      have c0 : wr.cell? ⟨g, off + k * 10, none⟩ = _ := hf 0 (by omega)
      generalize (fs.getD k []).getD 0 0 = i at *
      by_cases h1 : i = id
      · have z1 : (i == id) = true := beq_iff_eq.2 h1
        rw [if_pos h1] at he
        have HE2 := Lib.hid he
        clear he dr hf hfl HE h1
        go_wp2
        go_ret
        exact ⟨ret_int HE2.out.symm, HK.out⟩
      · have z1 : (i == id) = false := beq_eq_false_iff_ne.2 h1
        rw [if_neg h1] at he
        have HE2 := Lib.hid he
        clear he dr hf hfl HE h1
        go_wp2
        go_roundw
        case rel => exact ⟨k + 1, by omega, by go_num, HE2.out, HK.out⟩
        case measure => simp [intOf]; omega
    · obtain rfl : k = n := by omega
      rw [DA.out] at HE
      go_wp2
      go_ret
      exact ⟨ret_int HE.out.symm, HK.out⟩

theorem mem_ids {fs : List (List Int)} {k : Nat} (hk : k ≤ fs.length) {id : Int} : id ∈ idsOf (fs.take k) ↔ ∃ j, j < k ∧ (fs.getD j []).getD 0 0 = id := by
  unfold idsOf
  rw [List.mem_map]
  constructor
  · rintro ⟨l, hl, rfl⟩
    obtain ⟨j, hj, rfl⟩ := List.mem_iff_getElem.1 hl
    rw [List.length_take] at hj
    refine ⟨j, by omega, ?_⟩
    rw [List.getElem_take, List.getD_eq_getElem?_getD (l := fs), List.getElem?_eq_getElem (by omega)]; rfl
  · rintro ⟨j, hj, rfl⟩
    refine ⟨fs[j]'(by omega), ?_, ?_⟩
    · exact List.mem_iff_getElem.2 ⟨j, by rw [List.length_take]; omega, by rw [List.getElem_take]⟩
    · rw [List.getD_eq_getElem?_getD (l := fs), List.getElem?_eq_getElem (by omega)]; rfl

set_option maxRecDepth 100000 in
set_option maxHeartbeats 4000000 in
theorem rfcs_run (v : Value) (fs : List (List Int)) (w : World) (hr : ReadsF w v fs) :
    Calls Try.prog 13 #[v] w fun e w' => e = .returned (.int .i64 (checksE fs)) ∧ Kpt w w' := by
  obtain ⟨a, cap, rfl, hm, -, hc⟩ := hr
  unfold maxLen at hm
  have HC := Lib.hid hc
  obtain ⟨n, hn⟩ : ∃ n, n = fs.length := ⟨_, rfl⟩
  by_cases h60 : 60 < fs.length
  · have HX : Hid (checksE fs = 2) := by unfold Hid checksE; rw [if_pos h60]
    rw [← hn] at h60 HC hm ⊢
    have y1 : decide ((60 : Int) < (n : Int)) = true := decide_eq_true (by omega)
    have y2 : (60 : Int) < (n : Int) := by omega
    clear hc hn
    go_enter Try.func13, Try.ntmps13
    go_wp2
    go_ret
    exact ⟨ret_int HX.out.symm, Kpt.refl _⟩
  have HX : Hid (checksE fs = idsE (idsOf (fs.take 0)) (fs.drop 0)) := by unfold Hid checksE; rw [if_neg h60]; rfl
  have DR := Lib.hid (fun k (h : k < fs.length) => drop_at h)
  have IS := Lib.hid (fun k (h : k < fs.length) => idsOf_s h)
  have MI := Lib.hid (fun k (h : k ≤ fs.length) id => mem_ids (fs := fs) h (id := id))
  have DA : Hid (fs.drop n = []) := by unfold Hid; rw [hn, List.drop_length]
  rw [← hn] at h60 HC hm DR IS MI ⊢
  have y1 : decide ((60 : Int) < (n : Int)) = false := decide_eq_false (by omega)
  have y2 : ¬ (60 : Int) < (n : Int) := by omega
  clear hc hn
  go_enter Try.func13, Try.ntmps13
  go_wp2
  go_loopw [3, 4, 5] (fun ii _ _ wr => ∃ k : Nat, k ≤ n ∧ ii = .int .i64 (k : Int) ∧ Hid (checksE fs = idsE (idsOf (fs.take k)) (fs.drop k)) ∧ Hid (Kpt w wr)) (fun ii _ _ _ => n - (intOf ii).toNat)
  case atStart => exact ⟨0, Nat.zero_le _, rfl, HX.out, Kpt.refl _⟩
  case round =>
    obtain ⟨k, hk, rfl, HE, HK⟩ := hrel
    by_cases hlt : k < n
    · obtain ⟨g, off, rfl, hfl⟩ := HC.out k hlt
      have HQ : Hid (∀ j, j < n → FlAt w g (off + j * 10) (fs.getD j [])) := fun j hj => by
        obtain ⟨b', off', e, h'⟩ := HC.out j hj
        simp only [Option.some.injEq, Addr.mk.injEq] at e
        obtain ⟨rfl, rfl, -⟩ := e
        exact h'
      have hf := hfl.kpt HK.out
      have dr := DR.out k hlt
      have is' := IS.out k hlt
      have mi := MI.out k (by omega) ((fs.getD k []).getD 0 0)
      have he := HE.out
      rw [dr] at he
      unfold idsE failEL at he
      have H0 : Hid (FlAt w g (off + k * 10) (fs.getD k [])) := hfl
      clear hfl HE
      obtain ⟨ID, hID⟩ : ∃ ID, ID = (fs.getD k []).getD 0 0 := ⟨_, rfl⟩
      have d0 : Hid (w.cell? ⟨g, off + k * 10, none⟩ = some (.int .i64 ID)) := by rw [hID]; exact H0.out 0 (by omega)
      clear H0
      rw [← hID] at he mi is'
      rw [is'.symm] at he
      have CK := Lib.hid (fun w' => rfc_run ID ((fs.getD k []).getD 1 0) ((fs.getD k []).getD 2 0) ((fs.getD k []).getD 3 0) ((fs.getD k []).getD 4 0) ((fs.getD k []).getD 5 0) ((fs.getD k []).getD 6 0) ((fs.getD k []).getD 7 0) ((fs.getD k []).getD 8 0) ((fs.getD k []).getD 9 0) w')
      have c0 : wr.cell? ⟨g, off + k * 10, none⟩ = _ := hf 0 (by omega)
      have c1 : wr.cell? ⟨g, off + k * 10 + 1, none⟩ = _ := hf 1 (by omega)
      have c2 : wr.cell? ⟨g, off + k * 10 + 2, none⟩ = _ := hf 2 (by omega)
      have c3 : wr.cell? ⟨g, off + k * 10 + 3, none⟩ = _ := hf 3 (by omega)
      have c4 : wr.cell? ⟨g, off + k * 10 + 4, none⟩ = _ := hf 4 (by omega)
      have c5 : wr.cell? ⟨g, off + k * 10 + 5, none⟩ = _ := hf 5 (by omega)
      have c6 : wr.cell? ⟨g, off + k * 10 + 6, none⟩ = _ := hf 6 (by omega)
      have c7 : wr.cell? ⟨g, off + k * 10 + 7, none⟩ = _ := hf 7 (by omega)
      have c8 : wr.cell? ⟨g, off + k * 10 + 8, none⟩ = _ := hf 8 (by omega)
      have c9 : wr.cell? ⟨g, off + k * 10 + 9, none⟩ = _ := hf 9 (by omega)
      rw [← hID] at c0
      clear hID hf dr is'
      generalize (fs.getD k []).getD 1 0 = f at *
      generalize (fs.getD k []).getD 2 0 = t at *
      generalize (fs.getD k []).getD 3 0 = c at *
      generalize (fs.getD k []).getD 4 0 = p at *
      generalize (fs.getD k []).getD 5 0 = d at *
      generalize (fs.getD k []).getD 6 0 = u at *
      generalize (fs.getD k []).getD 7 0 = x at *
      generalize (fs.getD k []).getD 8 0 = b at *
      generalize (fs.getD k []).getD 9 0 = y at *
      generalize failE ID f t c p d u x b y = E at *
      by_cases h1 : E = 0
      · have z1 : (E != 0) = false := by rw [h1]; rfl
        rw [if_neg (by omega)] at he
        have HE1 := Lib.hid he
        have HMI := Lib.hid mi
        clear he h1 mi
        go_wp2_with (go_at_call 43; (with_reducible refine (CK.out _).mono ?_); rintro e w1 ⟨rfl, k1⟩; have K1 := Lib.hid (ktr HK.out k1); clear k1)
        clear c0 c1 c2 c3 c4 c5 c6 c7 c8 c9
        go_loopw [5] (fun jj wr => ∃ j : Nat, j ≤ k ∧ jj = .int .i64 (j : Int) ∧ Hid (∀ j', j' < j → (fs.getD j' []).getD 0 0 ≠ ID) ∧ Hid (Kpt w wr)) (fun jj _ => k - (intOf jj).toNat)
        case atStart => exact ⟨0, Nat.zero_le _, rfl, (fun j' h => absurd h (Nat.not_lt_zero _)), K1.out⟩
        case round =>
          obtain ⟨j, hj, rfl, HN, HK2⟩ := hrel
          by_cases hlt2 : j < k
          · have d1 := HK2.out.cell d0.out
            have d2 : World.cell? _ ⟨g, off + j * 10, none⟩ = _ := ((HQ.out j (by omega)).kpt HK2.out) 0 (by omega)
            have HM2 : Hid ((fs.getD j []).getD 0 0 = ID → ID ∈ idsOf (fs.take k)) := fun e => HMI.out.2 ⟨j, hlt2, e⟩
            have HN2 : Hid ((fs.getD j []).getD 0 0 ≠ ID → ∀ j', j' < j + 1 → (fs.getD j' []).getD 0 0 ≠ ID) := fun e j' hj' => by
              rcases Nat.lt_or_ge j' j with q | q
              · exact HN.out j' q
              · obtain rfl : j' = j := by omega
                exact e
            generalize (fs.getD j []).getD 0 0 = id2 at *
            have jn : (j : Int) < (n : Int) := by omega
            have kn : (k : Int) < (n : Int) := by omega
            by_cases h2 : id2 = ID
            · have z2 : (id2 == ID) = true := beq_iff_eq.2 h2
              have HR : Hid (checksE fs = 6) := by
                have := HE1.out; rw [if_pos (HM2.out h2)] at this; exact this
              clear h2
              go_wp2
              go_quiet (fail)
              go_wp2
              go_ret
              exact ⟨ret_int HR.out.symm, HK2.out.drewN _⟩
            · have z2 : (id2 == ID) = false := beq_eq_false_iff_ne.2 h2
              have HN3 := Lib.hid (HN2.out h2)
              clear h2
              go_wp2
              go_quiet (fail)
              go_wp2
              go_roundw
              case rel => exact ⟨j + 1, by omega, by go_num, HN3.out, HK2.out.drewN _⟩
              case measure => simp [intOf]; omega
          · obtain rfl : j = k := by omega
            have HR : Hid (checksE fs = idsE (idsOf (fs.take (j + 1))) (fs.drop (j + 1))) := by
              have := HE1.out
              rw [if_neg (fun hm => by obtain ⟨j', h1, h2⟩ := HMI.out.1 hm; exact HN.out j' h1 h2)] at this
              exact this
            go_wp2
            go_roundw
            case rel => exact ⟨j + 1, by omega, by go_num, HR.out, HK2.out⟩
            case measure => simp [intOf]; omega
      · have z1 : (E != 0) = true := bne_iff_ne.2 h1
        rw [if_pos h1] at he
        have HE1 := Lib.hid he
        clear he h1 mi
        go_wp2_with (go_at_call 43; (with_reducible refine (CK.out _).mono ?_); rintro e w1 ⟨rfl, k1⟩; have K1 := Lib.hid (ktr HK.out k1); clear k1)
        go_ret
        exact ⟨ret_int HE1.out.symm, K1.out⟩
    · obtain rfl : k = n := by omega
      rw [DA.out] at HE
      go_wp2
      go_ret
      exact ⟨ret_int HE.out.symm, HK.out⟩

end Go.Proofs.Ytmcbebjipiojoaa

-- RefTop
namespace Go.Proofs.Ytmcbebjipiojoaa
open Go.RowKit
set_option linter.unusedVariables false

theorem wpart {U p : Int} (h1 : 0 ≤ U ∧ U ≤ 1073741824) (h3 : 0 ≤ p ∧ p ≤ 1099511627776) (w : World) :
    Calls Try.prog 54 #[.int .i64 U, .int .i64 p, .int .i64 10000] w fun e w' => e = .returned (.tuple #[.int .i64 (U * p / 10000), .int .i64 (U * p % 10000)]) ∧ w = w' := by
  obtain ⟨a, rfl⟩ : ∃ a : Nat, U = (a : Int) := ⟨U.toNat, by omega⟩
  obtain ⟨b, rfl⟩ : ∃ b : Nat, p = (b : Int) := ⟨p.toNat, by omega⟩
  have hab : a * b ≤ 1073741824 * 1099511627776 := Nat.mul_le_mul (by omega) (by omega)
  have hq : a * b / 10000 ≤ 1180591620717411303424 / 10000 := Nat.div_le_div_right hab
  have e1 : ((a * b / 10000 : Nat) : Int) = (a : Int) * (b : Int) / 10000 := by rw [Int.natCast_ediv, Int.natCast_mul]; rfl
  have e2 : ((a * b % 10000 : Nat) : Int) = (a : Int) * (b : Int) % 10000 := by rw [Int.natCast_emod, Int.natCast_mul]; rfl
  have := partOf_ok a b 10000 _ _ rfl rfl (by omega) (by omega) (by decide) (by decide) (by omega) w
  rw [e1, e2] at this
  exact this

set_option maxRecDepth 100000 in
set_option maxHeartbeats 4000000 in
theorem wor_run (l ps : List Int) (pv : Value) (w : World) (hl : failEL l = 0) (h20 : ps.length = 20) (hp : ∀ j, j < 20 → 0 ≤ ps.getD j 0 ∧ ps.getD j 0 ≤ 1099511627776) (hr : Reads w pv ps) :
    Calls Try.prog 25 #[.agg (flC l), pv] w fun e w' => e = .returned (.int .i64 (openL l * ps.getD (l.getD 4 0 - 1).toNat 0 / 10000)) ∧ Kpt w w' := by
  have fb := fail_bd hl
  have hU := openL_bd l
  obtain ⟨k4, e4⟩ : ∃ k : Nat, l.getD 4 0 = (k : Int) + 1 := ⟨(l.getD 4 0 - 1).toNat, by omega⟩
  have e5 : (l.getD 4 0 - 1).toNat = k4 := by omega
  have hb := hp k4 (by omega)
  have FO := Lib.hid (fun w' => rfo_run (l.getD 0 0) (l.getD 1 0) (l.getD 2 0) (l.getD 3 0) (l.getD 4 0) (l.getD 5 0) (l.getD 6 0) (l.getD 7 0) (l.getD 8 0) (l.getD 9 0) w' fb.1 (by omega) (by omega) (by omega))
  rw [← fb.2.2.2.2.2.2.2] at FO
  have HP := Lib.hid (fun w' => wpart hU hb w')
  have hk : k4 < ps.length := by omega
  obtain ⟨b, off, cap, rfl, hc⟩ : ∃ b off cap, pv = .slice (some ⟨b, off, none⟩) ps.length cap ∧ ∀ j, j < ps.length → w.cell? ⟨b, off + j, none⟩ = some (.int .i64 (ps.getD j 0)) := by
    rcases hr.cell with ⟨e, _⟩ | ⟨_, b', off', cap', e, hc⟩
    · rw [e] at hk; simp at hk
    · exact ⟨_, _, _, e, hc⟩
  have cp := hc k4 hk
  rw [e5]
  have H20 := Lib.hid h20
  have i0 : (0 : Int) ≤ (k4 : Int) := by omega
  have i1 : (k4 : Int) < (ps.length : Int) := by omega
  have h5 : (k4 : Int) + 1 - 1 = k4 := by omega
  have h6 : IntKind.i64.wrap (k4 : Int) = k4 := IntWalk.i64_in _ (by omega)
  rw [e4] at FO
  unfold flC
  rw [e4]
  clear hc hp hb h20 fb hl e5
  generalize l.getD 0 0 = z0 at *
  generalize l.getD 1 0 = z1 at *
  generalize l.getD 2 0 = z2 at *
  generalize l.getD 3 0 = z3 at *
  generalize l.getD 5 0 = z5 at *
  generalize l.getD 6 0 = z6 at *
  generalize l.getD 7 0 = z7 at *
  generalize l.getD 8 0 = z8 at *
  generalize l.getD 9 0 = z9 at *
  clear e4
  obtain ⟨V, hV⟩ : ∃ V, openL l * ps.getD k4 0 / 10000 = V := ⟨_, rfl⟩
  obtain ⟨R, hR⟩ : ∃ R, openL l * ps.getD k4 0 % 10000 = R := ⟨_, rfl⟩
  rw [hR] at HP
  clear hR
  rw [hV] at HP ⊢
  generalize openL l = U at *
  generalize ps.getD k4 0 = PR at *
  clear hV
  have BF : Hid (Blk (w.alloc (.cells #[.int .i64 z0, .int .i64 z1, .int .i64 z2, .int .i64 z3, .int .i64 ((k4 : Int) + 1), .int .i64 z5, .int .i64 z6, .int .i64 z7, .int .i64 z8, .int .i64 z9] 38)) w.heap.size #[.int .i64 z0, .int .i64 z1, .int .i64 z2, .int .i64 z3, .int .i64 ((k4 : Int) + 1), .int .i64 z5, .int .i64 z6, .int .i64 z7, .int .i64 z8, .int .i64 z9] 38) := Blk.made _ _ _
  have K0 : Hid (Kpt w (w.alloc (.cells #[.int .i64 z0, .int .i64 z1, .int .i64 z2, .int .i64 z3, .int .i64 ((k4 : Int) + 1), .int .i64 z5, .int .i64 z6, .int .i64 z7, .int .i64 z8, .int .i64 z9] 38))) := (Kpt.refl w).alloc _
  go_enter Try.func25, Try.ntmps25
  go_upto_region 1 with fail
  have cq := K0.out.cell cp
  generalize w.alloc (.cells #[.int .i64 z0, .int .i64 z1, .int .i64 z2, .int .i64 z3, .int .i64 ((k4 : Int) + 1), .int .i64 z5, .int .i64 z6, .int .i64 z7, .int .i64 z8, .int .i64 z9] 38) = W0 at BF K0 cq ⊢
  have f0 := cell_k (q := W0) (a := ⟨w.heap.size, 0, none⟩) (v := .int .i64 z0) (BF.out.cell 0)
  have f1 := cell_k (q := W0) (a := ⟨w.heap.size, 1, none⟩) (v := .int .i64 z1) (BF.out.cell 1)
  have f2 := cell_k (q := W0) (a := ⟨w.heap.size, 2, none⟩) (v := .int .i64 z2) (BF.out.cell 2)
  have f3 := cell_k (q := W0) (a := ⟨w.heap.size, 3, none⟩) (v := .int .i64 z3) (BF.out.cell 3)
  have f4 := cell_k (q := W0) (a := ⟨w.heap.size, 4, none⟩) (v := .int .i64 ((k4 : Int) + 1)) (BF.out.cell 4)
  have f5 := cell_k (q := W0) (a := ⟨w.heap.size, 5, none⟩) (v := .int .i64 z5) (BF.out.cell 5)
  have f6 := cell_k (q := W0) (a := ⟨w.heap.size, 6, none⟩) (v := .int .i64 z6) (BF.out.cell 6)
  have f7 := cell_k (q := W0) (a := ⟨w.heap.size, 7, none⟩) (v := .int .i64 z7) (BF.out.cell 7)
  have f8 := cell_k (q := W0) (a := ⟨w.heap.size, 8, none⟩) (v := .int .i64 z8) (BF.out.cell 8)
  have f9 := cell_k (q := W0) (a := ⟨w.heap.size, 9, none⟩) (v := .int .i64 z9) (BF.out.cell 9)
  have fp := cell_k (q := W0) cq
  have mixed : Try.prog.follows .mixedOrders = true := by kernel_rfl
  refine quiet_k (q := W0) mixed (by kernel_rfl) ?_
  repeat (quiet_step (first | (go_at_call 14; with_reducible refine calls_k (FO.out _)) | (go_at_call 54; with_reducible refine calls_same (HP.out _))))
  refine wpQuiet_nil ?_
  intro w8 hw1
  obtain ⟨⟨wz, kz⟩, hw2⟩ := hw1
  have hw3 : w8 = wz := hw2
  clear hw2
  subst hw3
  go_wp2
  go_ret
  exact ⟨rfl, ktr K0.out kz⟩

set_option maxHeartbeats 1000000 in
theorem has_run (v : Value) (xs : List Int) (n : Int) (w : World) (hr : Reads w v xs) : Calls Try.prog 26 #[v, .int .i64 n] w fun e w' => e = .returned (.bool (xs.contains n)) ∧ w = w' := by
  obtain ⟨a, cap, rfl, hm, -⟩ := id hr
  have HR := Lib.hid hr.sl
  unfold maxLen at hm
  have X0 : Hid (xs.contains n = (xs.drop 0).contains n) := rfl
  have DR : Hid (∀ k, k < xs.length → xs.drop k = xs.getD k 0 :: xs.drop (k + 1)) := fun k hk => by
    rw [List.drop_eq_getElem_cons hk, List.getD_eq_getElem?_getD, List.getElem?_eq_getElem hk]; rfl
  have DE : Hid (xs.drop xs.length = []) := List.drop_length
  obtain ⟨B, hB⟩ : ∃ B, xs.contains n = B := ⟨_, rfl⟩
  rw [hB]
  rw [hB] at X0
  clear hr hB
  go_enter Try.func26, Try.ntmps26
  go_wp2
  go_loop [5] (fun i => ∃ k : Nat, k ≤ xs.length ∧ i = .int .i64 (k : Int) ∧ Hid (B = (xs.drop k).contains n)) (fun i => xs.length - (intOf i).toNat)
  case atStart => exact ⟨0, Nat.zero_le _, rfl, X0.out⟩
  case round =>
    obtain ⟨k, hk, rfl, HE⟩ := hrel
    by_cases hlt : k < xs.length
    · obtain ⟨b, off, rfl, c1⟩ := HR.out k hlt
      have he := HE.out
      rw [DR.out k hlt, List.contains_cons] at he
      clear HE
      generalize xs.getD k 0 = z at *
      have k0 : (0 : Int) ≤ (k : Int) := by omega
      have k1 : (k : Int) < xs.length := by omega
      have y1 : decide ((k : Int) < (xs.length : Int)) = true := decide_eq_true k1
      by_cases hz : z = n
      · have q : (z == n) = true := beq_iff_eq.2 hz
        have HE2 : Hid (B = true) := by unfold Hid; rw [he, hz]; simp
        clear he hz
        go_wp2
        go_ret
        have e := HE2.out
        subst e
        exact ⟨rfl, rfl⟩
      · have q : (z == n) = false := beq_eq_false_iff_ne.2 hz
        have HE2 : Hid (B = (xs.drop (k + 1)).contains n) := by
          unfold Hid; rw [he]
          have : (n == z) = false := beq_eq_false_iff_ne.2 (fun e => hz e.symm)
          rw [this, Bool.false_or]
        clear he hz
        go_wp2
        go_round
        case rel => exact ⟨k + 1, by omega, by go_num, HE2.out⟩
        case measure => simp [intOf]; omega
    · have hkl : k = xs.length := by omega
      have y1 : decide ((k : Int) < (xs.length : Int)) = false := decide_eq_false (by omega)
      have HE2 : Hid (B = false) := by unfold Hid; rw [HE.out, hkl, DE.out]; rfl
      clear HE
      go_wp2
      go_ret
      have e := HE2.out
      subst e
      exact ⟨rfl, rfl⟩

end Go.Proofs.Ytmcbebjipiojoaa

-- LawRT
namespace Go.Proofs.Ytmcbebjipiojoaa
open Go.RowKit
set_option linter.unusedVariables false

def worL (ps l : List Int) : Int := openL l * ps.getD (l.getD 4 0 - 1).toNat 0 / 10000
theorem idxF_at {fs : List (List Int)} (hn : (idsOf fs).Nodup) {x k : Nat} (hx : x < fs.length) : idxF ((fs.getD x []).getD 0 0) fs k = ((k + x : Nat) : Int) := by
  induction fs generalizing x k with
  | nil => simp at hx
  | cons l fs ih =>
    have e : idsOf (l :: fs) = l.getD 0 0 :: idsOf fs := rfl
    rw [e, List.nodup_cons] at hn
    unfold idxF
    cases x with
    | zero => rw [List.getD_cons_zero, if_pos rfl]; simp
    | succ x =>
      have hx' : x < fs.length := by simpa using hx
      rw [List.getD_cons_succ, if_neg, ih hn.2 hx']
      · congr 1; omega
      · intro e
        exact hn.1 (by rw [e]; exact List.mem_map.2 ⟨_, getF_mem hx', rfl⟩)
theorem checks_nodup {fs : List (List Int)} (h : checksE fs = 0) : (idsOf fs).Nodup := by
  unfold checksE at h
  split at h
  · cases h
  · exact (ids_ok.1 h).2.1
theorem opn_mem {fs : List (List Int)} (x : Fin fs.length) : x ∈ opn fs fs.length ↔ 0 < openL (fs.getD x.1 []) := by
  unfold opn
  rw [List.take_of_length_le (by simp), List.mem_filter]
  simp
theorem srt_uniq {ps : List Int} {fs : List (List Int)} : ∀ {p q : List (List Int)}, p.Perm q → (∀ a ∈ p, ∃ i v : Int, a = [i, v]) → p.Pairwise (fun x y => ¬ ahdW y x) → q.Pairwise (fun x y => ¬ ahdW y x) → p = q
  | [], q, h, _, _, _ => (List.perm_nil.1 h.symm).symm
  | a :: p, [], h, _, _, _ => absurd h.length_eq (by simp)
  | a :: p, b :: q, h, hf, h1, h2 => by
    have hab : a = b := by
      have m1 : a ∈ b :: q := h.mem_iff.1 (by simp)
      have m2 : b ∈ a :: p := h.mem_iff.2 (by simp)
      rcases List.mem_cons.1 m1 with e | m1
      · exact e
      · rcases List.mem_cons.1 m2 with e | m2
        · exact e.symm
        · have n1 := (List.pairwise_cons.1 h1).1 b m2
          have n2 := (List.pairwise_cons.1 h2).1 a m1
          obtain ⟨i, v, rfl⟩ := hf a (by simp)
          obtain ⟨j, u, rfl⟩ := hf b (by simp [m2])
          unfold ahdW at n1 n2
          simp only [List.getD_cons_succ, List.getD_cons_zero] at n1 n2
          obtain rfl : i = j := by omega
          obtain rfl : v = u := by omega
          rfl
    subst hab
    rw [srt_uniq (ps := ps) (fs := fs) ((List.perm_cons a).1 h) (fun c hc => hf c (by simp [hc])) (List.pairwise_cons.1 h1).2 (List.pairwise_cons.1 h2).2]
/-- what Top answers, of sorted values: the numbers; and the value at a place -/
def topN (qs : List (List Int)) (m : Int) : List Int := (qs.take m.toNat).map fun l => l.getD 0 0
def topV (qs : List (List Int)) (j : Nat) : Int := (qs.getD j []).getD 1 0
def lastV (V : Nat → Int) (k : Nat) : Int := if k = 0 then -1 else V (k - 1)
structure TopOk (ps : List Int) (fs : List (List Int)) (m : Int) (TL : List Int) (V : Nat → Int) : Prop where
  len : (TL.length : Int) ≤ m
  l60 : TL.length ≤ 60
  at' : ∀ i, i < TL.length → ∃ kx, kx < fs.length ∧ idxF (TL.getD i 0) fs 0 = ((kx : Nat) : Int) ∧ 0 < openL (fs.getD kx []) ∧ worL ps (fs.getD kx []) = V i
  dn : ∀ i, i + 1 < TL.length → V (i + 1) ≤ V i
  ge : ∀ i, i < TL.length → 0 ≤ V i
  out : ∀ x, x < fs.length → 0 < openL (fs.getD x []) → TL.contains ((fs.getD x []).getD 0 0) = false → ¬ (TL.length : Int) < m ∧ (0 < m → worL ps (fs.getD x []) ≤ lastV V TL.length)
theorem worL_ge {ps l : List Int} (hp : ∀ j, j < 20 → 0 ≤ ps.getD j 0 ∧ ps.getD j 0 ≤ 1099511627776) (hl : failEL l = 0) : 0 ≤ worL ps l := by
  have fb := fail_bd hl
  have := hp (l.getD 4 0 - 1).toNat (by omega)
  exact Int.ediv_nonneg (Int.mul_nonneg (openL_bd l).1 this.1) (by decide)
theorem top_is {ps : List Int} {fs : List (List Int)} {m : Int} (hE : topE fs ps m = 0) {qs : List (List Int)} (hp : qs.Perm (wortT ps fs (opn fs fs.length))) (hs : qs.Pairwise (fun x y => ¬ ahdW y x)) : TopOk ps fs m (topN qs m) (topV qs) := by
  obtain ⟨h1, h2, h3, h4⟩ := topE_0 hE
  obtain ⟨h60, hfl⟩ := checksE_0 h1
  obtain ⟨h20, hpr⟩ := prsE_0 h2
  have hn := checks_nodup h1
  have hql : qs.length ≤ 60 := by
    rw [hp.length_eq]; unfold wortT; rw [List.length_map]; have := opn_len fs fs.length; omega
  have hl : (topN qs m).length = min m.toNat qs.length := by unfold topN; rw [List.length_map, List.length_take]
  have hat : ∀ i, i < qs.length → ∃ x : Fin fs.length, 0 < openL (fs.getD x.1 []) ∧ qs.getD i [] = wortL ps (fs.getD x.1 []) := by
    intro i hi
    have hm : qs.getD i [] ∈ qs := getF_mem hi
    obtain ⟨x, hx, e⟩ := List.mem_map.1 (hp.mem_iff.1 hm)
    exact ⟨x, (opn_mem x).1 hx, e.symm⟩
  have hord : ∀ i j, i < j → j < qs.length → topV qs j ≤ topV qs i := by
    intro i j hij hj
    have := (List.pairwise_iff_getElem.1 hs) i j (by omega) hj hij
    unfold topV
    rw [List.getD_eq_getElem?_getD (l := qs), List.getElem?_eq_getElem hj, List.getD_eq_getElem?_getD (l := qs) (i := i), List.getElem?_eq_getElem (by omega : i < qs.length)]
    unfold ahdW at this
    simp only [Option.getD_some]
    omega
  have hT : ∀ i, i < (topN qs m).length → (topN qs m).getD i 0 = (qs.getD i []).getD 0 0 := by
    intro i hi
    rw [hl] at hi
    unfold topN
    rw [List.getD_eq_getElem?_getD, List.getElem?_map, List.getElem?_take_of_lt (by omega), List.getD_eq_getElem?_getD (l := qs), List.getElem?_eq_getElem (by omega : i < qs.length)]
    rfl
  refine ⟨by omega, by omega, fun i hi => ?_, fun i hi => hord i (i + 1) (by omega) (by omega), fun i hi => ?_, fun x hx ho hc => ?_⟩
  · obtain ⟨x, ho, e⟩ := hat i (by omega)
    refine ⟨x.1, x.2, ?_, ho, ?_⟩
    · rw [hT i hi, e]
      have := idxF_at hn (k := 0) x.2
      rw [Nat.zero_add] at this
      exact this
    · unfold topV; rw [e]; rfl
  · obtain ⟨x, ho, e⟩ := hat i (by omega)
    unfold topV; rw [e]
    exact worL_ge hpr (hfl _ (getF_mem x.2))
  · have hm : wortL ps (fs.getD x []) ∈ qs := hp.mem_iff.2 (List.mem_map.2 ⟨⟨x, hx⟩, (opn_mem ⟨x, hx⟩).2 ho, rfl⟩)
    obtain ⟨j, hj, e⟩ := List.mem_iff_getElem.1 hm
    have ej : qs.getD j [] = wortL ps (fs.getD x []) := by rw [List.getD_eq_getElem?_getD, List.getElem?_eq_getElem hj]; exact e
    have hjm : ¬ j < (topN qs m).length := by
      intro hjl
      have h0 : (topN qs m).getD j 0 = (fs.getD x []).getD 0 0 := by rw [hT j hjl, ej]; rfl
      have : (fs.getD x []).getD 0 0 ∈ topN qs m := by
        rw [← h0, List.getD_eq_getElem?_getD, List.getElem?_eq_getElem hjl]; simp
      rw [List.contains_iff_mem.2 this] at hc
      cases hc
    refine ⟨by omega, fun hm0 => ?_⟩
    have : worL ps (fs.getD x []) = topV qs j := by unfold topV; rw [ej]; rfl
    unfold lastV
    rw [this, if_neg (by omega)]
    by_cases e : j = (topN qs m).length - 1
    · omega
    · exact hord _ j (by omega) hj
theorem topN_take {qs : List (List Int)} {m f : Int} (h : f ≤ m) : topN qs f = (topN qs m).take (topN qs f).length ∧ (topN qs f).length ≤ (topN qs m).length := by
  have hl : ∀ m : Int, (topN qs m).length = min m.toNat qs.length := fun m => by unfold topN; rw [List.length_map, List.length_take]
  refine ⟨?_, by rw [hl, hl]; omega⟩
  rw [hl]
  unfold topN
  rw [← List.map_take, List.take_take]
  congr 1
  rw [show min (min f.toNat qs.length) m.toNat = min f.toNat qs.length by omega]
  by_cases e : f.toNat ≤ qs.length
  · rw [Nat.min_eq_left e]
  · rw [Nat.min_eq_right (by omega), List.take_of_length_le (by omega), List.take_length]
theorem reads_take {w : World} {a : Option Addr} {n cap k : Nat} {zs : List Int} (h : Reads w (.slice a n cap) zs) (hk : k ≤ zs.length) : Reads w (.slice a k cap) (zs.take k) := by
  have hl := h.len
  rcases h.cell with ⟨rfl, a', cap', e⟩ | ⟨h0, b, off, cap', e, hc⟩
  · obtain rfl : k = 0 := by simpa using hk
    simpa using reads_nil w a cap
  · injection e with e1 _ e3
    subst e1 e3
    have : (zs.take k).length = k := by rw [List.length_take]; omega
    have r := reads_mk (w := w) (b := b) (off := off) (cap := cap) (zs := zs.take k) rfl (by rw [this]; exact Nat.le_trans hk hl) (fun j hj => by
      rw [this] at hj
      rw [hc j (by omega), List.getD_eq_getElem?_getD, List.getD_eq_getElem?_getD, List.getElem?_take_of_lt hj])
    rw [this] at r
    exact r
theorem wort_form {ps : List Int} {fs : List (List Int)} {xs : List (Fin fs.length)} : ∀ a ∈ wortT ps fs xs, ∃ i v : Int, a = [i, v] := fun a ha => by
  obtain ⟨x, _, rfl⟩ := List.mem_map.1 ha
  exact ⟨_, _, rfl⟩
/-- Top's answers at one order of the values, whatever it is -/
def TopAt (qs : List (List Int)) (fv pv : Value) (ps : List Int) (fs : List (List Int)) : Prop := ∀ (m : Int) (w : World), ReadsF w fv fs → Reads w pv ps → topE fs ps m = 0 → Calls Try.prog 10 #[fv, pv, .int .i64 m] w fun e w' => ∃ a cap, e = .returned (.tuple #[.slice a (topN qs m).length cap, .int .i64 0]) ∧ (topN qs m).length ≤ cap ∧ Reads w' (.slice a (topN qs m).length cap) (topN qs m) ∧ Kpt w w'

def leW (x y : List Int) : Bool := decide (¬ (x.getD 1 0 < y.getD 1 0 ∨ (y.getD 1 0 = x.getD 1 0 ∧ y.getD 0 0 < x.getD 0 0)))
/-- the values in their order -/
def qsO (ps : List Int) (fs : List (List Int)) : List (List Int) := (wortT ps fs (opn fs fs.length)).mergeSort leW
theorem qsO_is (ps : List Int) (fs : List (List Int)) : (qsO ps fs).Perm (wortT ps fs (opn fs fs.length)) ∧ (qsO ps fs).Pairwise (fun x y => ¬ ahdW y x) := by
  refine ⟨List.mergeSort_perm _ _, ?_⟩
  have h := List.pairwise_mergeSort (le := leW) (fun a b c h1 h2 => by
    unfold leW at *
    simp only [decide_eq_true_eq] at *
    omega) (fun a b => by
    unfold leW
    simp only [Bool.or_eq_true, decide_eq_true_eq]
    omega) (wortT ps fs (opn fs fs.length))
  exact h.imp fun h => by unfold leW at h; unfold ahdW; exact of_decide_eq_true h
theorem top_at (fv pv : Value) (ps : List Int) (fs : List (List Int)) : TopAt (qsO ps fs) fv pv ps fs := by
  intro m w hF hP hE
  obtain ⟨a2, cap2, rfl, -⟩ := id hF
  obtain ⟨a3, cap3, rfl, -⟩ := id hP
  refine (top_ok m a2 a3 cap2 cap3 ps fs w hF hP hE).mono ?_
  rintro e w' ⟨⟨v, qs, hp, hs, rfl, ho⟩, hk⟩
  have e : qs = qsO ps fs := srt_uniq (ps := ps) (fs := fs) (hp.trans (qsO_is ps fs).1.symm) (fun a ha => wort_form a (hp.mem_iff.1 ha)) hs (qsO_is ps fs).2
  rw [e] at ho
  obtain ⟨a, cap, rfl, hc, hr⟩ := ho.readsCap
  exact ⟨a, cap, rfl, hc, hr, hk⟩
theorem fl10 {w w' : World} {g o : Nat} {l : List Int} (h : FlAt w g o l) (k : Kpt w w') : w'.cell? ⟨g, o, none⟩ = some (.int .i64 (l.getD 0 0)) ∧ w'.cell? ⟨g, o + 1, none⟩ = some (.int .i64 (l.getD 1 0)) ∧ w'.cell? ⟨g, o + 2, none⟩ = some (.int .i64 (l.getD 2 0)) ∧ w'.cell? ⟨g, o + 3, none⟩ = some (.int .i64 (l.getD 3 0)) ∧ w'.cell? ⟨g, o + 4, none⟩ = some (.int .i64 (l.getD 4 0)) ∧ w'.cell? ⟨g, o + 5, none⟩ = some (.int .i64 (l.getD 5 0)) ∧ w'.cell? ⟨g, o + 6, none⟩ = some (.int .i64 (l.getD 6 0)) ∧ w'.cell? ⟨g, o + 7, none⟩ = some (.int .i64 (l.getD 7 0)) ∧ w'.cell? ⟨g, o + 8, none⟩ = some (.int .i64 (l.getD 8 0)) ∧ w'.cell? ⟨g, o + 9, none⟩ = some (.int .i64 (l.getD 9 0)) := by
  have h' := h.kpt k
  exact ⟨h' 0 (by decide), h' 1 (by decide), h' 2 (by decide), h' 3 (by decide), h' 4 (by decide), h' 5 (by decide), h' 6 (by decide), h' 7 (by decide), h' 8 (by decide), h' 9 (by decide)⟩

set_option maxRecDepth 100000 in
set_option maxHeartbeats 4000000 in
theorem rt_err (m f E : Int) (fv pv : Value) (w : World) (hE : (E != 0) = true) (h1 : ∃ a n cap, fv = .slice a n cap) (h2 : ∃ a n cap, pv = .slice a n cap)
    (TP : ∀ w', Kpt w w' → Calls Try.prog 10 #[fv, pv, .int .i64 m] w' fun e w'' => e = .returned (.tuple #[.slice none 0 0, .int .i64 E]) ∧ Kpt w' w'') :
    Calls Try.prog 6 #[fv, pv, .int .i64 m, .int .i64 f] w fun e w' => e = .returned (.bool true) ∧ Kpt w w' := by
  have TP := Lib.hid TP
  have K1 : Hid (Kpt w w) := Kpt.refl w
  obtain ⟨a, n, cap, rfl⟩ := h1
  obtain ⟨a', n', cap', rfl⟩ := h2
  go_enter Try.func6, Try.ntmps6
  go_wp2_with (first
    | (go_at_call 10; (with_reducible refine (TP.out _ K1.out).mono ?_); rintro z w1 ⟨rfl, kk⟩; have K1 := Lib.hid (ktr K1.out kk); clear kk)
    | (go_at_call 19; (with_reducible refine (reportBegun _).mono ?_); rintro z w3 ⟨rfl, kk⟩; have K1 := Lib.hid (ktr K1.out kk); clear kk))
  go_ret
  exact ⟨rfl, K1.out⟩
set_option maxRecDepth 100000 in
set_option maxHeartbeats 8000000 in
theorem rt_ok (m f : Int) (E2 : Int) (TL SL : List Int) (V : Nat → Int) (a a3 : Option Addr) (cap n3 cap3 : Nat) (ps : List Int) (fs : List (List Int)) (w : World) (hF : ReadsF w (.slice a fs.length cap) fs) (hP : Reads w (.slice a3 n3 cap3) ps)
    (h20 : ps.length = 20) (hpr : ∀ j, j < 20 → 0 ≤ ps.getD j 0 ∧ ps.getD j 0 ≤ 1099511627776) (h60 : fs.length ≤ 60) (hfl : ∀ l ∈ fs, failEL l = 0) (TO : TopOk ps fs m TL V) (hS : E2 = 0 → f ≤ m → SL = TL.take SL.length ∧ SL.length ≤ TL.length)
    (TP : ∀ w', Kpt w w' → Calls Try.prog 10 #[.slice a fs.length cap, .slice a3 n3 cap3, .int .i64 m] w' fun e w'' => ∃ a cap, e = .returned (.tuple #[.slice a TL.length cap, .int .i64 0]) ∧ TL.length ≤ cap ∧ Reads w'' (.slice a TL.length cap) TL ∧ Kpt w' w'')
    (TQ : ∀ w', Kpt w w' → Calls Try.prog 10 #[.slice a fs.length cap, .slice a3 n3 cap3, .int .i64 f] w' fun e w'' => ∃ a cap, e = .returned (.tuple #[.slice a SL.length cap, .int .i64 E2]) ∧ Reads w'' (.slice a SL.length cap) SL ∧ Kpt w' w'') :
    Calls Try.prog 6 #[.slice a fs.length cap, .slice a3 n3 cap3, .int .i64 m, .int .i64 f] w fun e w' => e = .returned (.bool true) ∧ Kpt w w' := by
  have TP := Lib.hid TP
  have TQ := Lib.hid TQ
  have K1 : Hid (Kpt w w) := Kpt.refl w
  have HF := Lib.hid hF
  have HPV := Lib.hid hP
  have H20 := Lib.hid h20
  have HPR := Lib.hid hpr
  have HFL := Lib.hid hfl
  have HTO := Lib.hid TO
  have HS := Lib.hid hS
  have FF := Lib.hid (fun id w' (k : Kpt w w') => rff_run _ fs id w' (hF.kpt k))
  obtain ⟨a2, cap2, e, hm, -, hcl⟩ := hF
  injection e with e1 _ e3
  subst e1 e3
  have HC := Lib.hid hcl
  unfold maxLen at hm
  have y0 : decide (m < (TL.length : Int)) = false := decide_eq_false (by have := TO.len; omega)
  have x0 : Hid (lastV V 0 = -1) := rfl
  clear hcl TO hfl hpr h20 hP hS
  go_enter Try.func6, Try.ntmps6
  go_wp2_with (first
    | (go_at_call 10; (with_reducible refine (TP.out _ K1.out).mono ?_); rintro z w1 ⟨ta, tc, rfl, hc, rd, kk⟩; have K1 := Lib.hid (ktr K1.out kk); have RT := Lib.hid rd; have HCT := Lib.hid hc; clear kk rd hc)
    | (go_at_call 19; (with_reducible refine (reportBegun _).mono ?_); rintro z w3 ⟨rfl, kk⟩; have K1 := Lib.hid (ktr K1.out kk); have RT := Lib.hid (RT.out.kpt kk); clear kk))
  have RS := Lib.hid RT.out.sl
  go_loopw [11, 12] (fun la ii wr => ∃ k : Nat, k ≤ TL.length ∧ la = .int .i64 (lastV V k) ∧ ii = .int .i64 (k : Int) ∧ Hid (Kpt w3 wr)) (fun la ii _ => TL.length - (intOf ii).toNat)
  case atStart => exact ⟨0, Nat.zero_le _, by rw [x0.out], rfl, Kpt.refl _⟩
  case round =>
    obtain ⟨k, hk, rfl, rfl, HK⟩ := hrel
    have KC : Hid (Kpt w wr) := ktr K1.out HK.out
    by_cases hlt : k < TL.length
    · obtain ⟨gt, ot, rfl, ct⟩ := RS.out k hlt
      have ct' := HK.out.cell ct
      obtain ⟨kx, hkx, hix, hop, hwv⟩ := HTO.out.at' k hlt
      have hdn : k = 0 ∨ V k ≤ V (k - 1) := by
        rcases Nat.eq_zero_or_pos k with e | e
        · exact .inl e
        · have := HTO.out.dn (k - 1) (by omega); rw [show k - 1 + 1 = k by omega] at this; exact .inr this
      have hge : k = 0 ∨ 0 ≤ V (k - 1) := by
        rcases Nat.eq_zero_or_pos k with e | e
        · exact .inl e
        · exact .inr (HTO.out.ge (k - 1) (by omega))
      have FX := Lib.hid (fun w' (g : Kpt w w') => FF.out (TL.getD k 0) w' g)
      rw [hix] at FX
      obtain ⟨g, off, rfl, hfl⟩ := HC.out kx hkx
      have fb := fail_bd (HFL.out _ (getF_mem hkx))
      have FL := Lib.hid (fun w' (kq : Kpt w w') => fl10 hfl kq)
      have FO := Lib.hid (fun w' => rfo_run ((fs.getD kx []).getD 0 0) ((fs.getD kx []).getD 1 0) ((fs.getD kx []).getD 2 0) ((fs.getD kx []).getD 3 0) ((fs.getD kx []).getD 4 0) ((fs.getD kx []).getD 5 0) ((fs.getD kx []).getD 6 0) ((fs.getD kx []).getD 7 0) ((fs.getD kx []).getD 8 0) ((fs.getD kx []).getD 9 0) w' fb.1 (by omega) (by omega) (by omega))
      rw [← fb.2.2.2.2.2.2.2] at FO
      have WO := Lib.hid (fun w' (kq : Kpt w w') => wor_run (fs.getD kx []) ps (.slice a3 n3 cap3) w' (HFL.out _ (getF_mem hkx)) H20.out HPR.out (HPV.out.kpt kq))
      unfold flC at WO
      change Hid (∀ w', Kpt w w' → Calls Try.prog 25 _ w' fun e w'' => e = .returned (.int .i64 (worL ps (fs.getD kx []))) ∧ Kpt w' w'') at WO
      rw [hwv] at WO
      have hls : Hid (lastV V (k + 1) = V k) := by unfold Hid lastV; rw [if_neg (by omega)]; rfl
      have y1 : decide ((k : Int) < (TL.length : Int)) = true := decide_eq_true (by omega)
      have i0 : (0 : Int) ≤ (k : Int) := by omega
      have i1 : (k : Int) < (TL.length : Int) := by omega
      have i2 : (0 : Int) ≤ (kx : Int) := by omega
      have i3 : (kx : Int) < (fs.length : Int) := by omega
      have y2 : decide ((kx : Int) < 0) = false := decide_eq_false (by omega)
      have m0 : IntKind.i64.wrap ((k : Int) + 1) = (k : Int) + 1 := IntWalk.i64_in _ (by have := HTO.out.l60; omega)
      clear fb hfl hix hwv ct
      generalize (fs.getD kx []).getD 0 0 = z0 at *
      generalize (fs.getD kx []).getD 1 0 = z1 at *
      generalize (fs.getD kx []).getD 2 0 = z2 at *
      generalize (fs.getD kx []).getD 3 0 = z3 at *
      generalize (fs.getD kx []).getD 4 0 = z4 at *
      generalize (fs.getD kx []).getD 5 0 = z5 at *
      generalize (fs.getD kx []).getD 6 0 = z6 at *
      generalize (fs.getD kx []).getD 7 0 = z7 at *
      generalize (fs.getD kx []).getD 8 0 = z8 at *
      generalize (fs.getD kx []).getD 9 0 = z9 at *
      generalize TL.getD k 0 = T at *
      generalize openL (fs.getD kx []) = U at *
      have q1 : (U == 0) = false := by rw [beq_eq_false_iff_ne]; omega
      generalize hVk : V k = W at *
      clear hop hVk
      rcases Nat.eq_zero_or_pos k with hz | hz
      · have e0 : lastV V k = -1 := by unfold lastV; rw [if_pos hz]
        rw [e0]
        have HZ := Lib.hid hz
        clear e0 hdn hge hz
        go_wp2_with (first
          | (go_at_call 24; (with_reducible refine (FX.out _ KC.out).mono ?_); rintro z w5 ⟨rfl, kk⟩; have HK := Lib.hid (ktr HK.out kk); have KC := Lib.hid (ktr KC.out kk); clear kk; obtain ⟨c0, c1, c2, c3, c4, c5, c6, c7, c8, c9⟩ := FL.out _ KC.out)
          | (go_at_call 14; (with_reducible refine (FO.out _).mono ?_); rintro z w6 ⟨rfl, kk⟩; have HK := Lib.hid (ktr HK.out kk); have KC := Lib.hid (ktr KC.out kk); clear kk c0 c1 c2 c3 c4 c5 c6 c7 c8 c9; obtain ⟨c0, c1, c2, c3, c4, c5, c6, c7, c8, c9⟩ := FL.out _ KC.out)
          | (go_at_call 25; (with_reducible refine (WO.out _ KC.out).mono ?_); rintro z w7 ⟨rfl, kk⟩; have HK := Lib.hid (ktr HK.out kk); have KC := Lib.hid (ktr KC.out kk); clear kk c0 c1 c2 c3 c4 c5 c6 c7 c8 c9; obtain ⟨c0, c1, c2, c3, c4, c5, c6, c7, c8, c9⟩ := FL.out _ KC.out))
        go_roundw
        case rel => exact ⟨k + 1, by omega, by rw [hls.out], by go_num, HK.out⟩
        case measure => simp [intOf]; omega
      · have e0 : lastV V k = V (k - 1) := by unfold lastV; rw [if_neg (by omega)]
        rw [e0]
        have hd' : W ≤ V (k - 1) := by
          rcases hdn with e | e
          · omega
          · exact e
        have hg' : 0 ≤ V (k - 1) := by
          rcases hge with e | e
          · omega
          · exact e
        clear e0 hdn hge
        generalize V (k - 1) = L at *
        have t1 : decide ((0 : Int) ≤ L) = true := decide_eq_true hg'
        have t2 : decide (L < W) = false := decide_eq_false (by omega)
        clear hd' hg'
        go_wp2_with (first
          | (go_at_call 24; (with_reducible refine (FX.out _ KC.out).mono ?_); rintro z w5 ⟨rfl, kk⟩; have HK := Lib.hid (ktr HK.out kk); have KC := Lib.hid (ktr KC.out kk); clear kk; obtain ⟨c0, c1, c2, c3, c4, c5, c6, c7, c8, c9⟩ := FL.out _ KC.out)
          | (go_at_call 14; (with_reducible refine (FO.out _).mono ?_); rintro z w6 ⟨rfl, kk⟩; have HK := Lib.hid (ktr HK.out kk); have KC := Lib.hid (ktr KC.out kk); clear kk c0 c1 c2 c3 c4 c5 c6 c7 c8 c9; obtain ⟨c0, c1, c2, c3, c4, c5, c6, c7, c8, c9⟩ := FL.out _ KC.out)
          | (go_at_call 25; (with_reducible refine (WO.out _ KC.out).mono ?_); rintro z w7 ⟨rfl, kk⟩; have HK := Lib.hid (ktr HK.out kk); have KC := Lib.hid (ktr KC.out kk); clear kk c0 c1 c2 c3 c4 c5 c6 c7 c8 c9; obtain ⟨c0, c1, c2, c3, c4, c5, c6, c7, c8, c9⟩ := FL.out _ KC.out))
        go_roundw
        case rel => exact ⟨k + 1, by omega, by rw [hls.out], by go_num, HK.out⟩
        case measure => simp [intOf]; omega
    · have hkl : k = TL.length := by omega
      have y1 : decide ((k : Int) < (TL.length : Int)) = false := decide_eq_false (by omega)
      have eL : lastV V k = lastV V TL.length := by rw [hkl]
      rw [eL]
      clear eL
      have RT2 := Lib.hid (RT.out.kpt HK.out)
      clear RT RS HK FF
      go_wp2
      have HOUT := Lib.hid HTO.out.out
      have L60 := Lib.hid HTO.out.l60
      clear HTO y1 hkl hk hlt x0
      generalize lastV V TL.length = LV at *
      rename World => w4
      go_loopw [14] (fun ii wr => ∃ k : Nat, k ≤ fs.length ∧ ii = .int .i64 (k : Int) ∧ Hid (Kpt w4 wr)) (fun ii _ => fs.length - (intOf ii).toNat)
      case atStart => exact ⟨0, Nat.zero_le _, rfl, Kpt.refl _⟩
      case round =>
        obtain ⟨k, hk, rfl, HK⟩ := hrel
        have KC : Hid (Kpt w wr) := ktr KC.out HK.out
        by_cases hkx : k < fs.length
        · skip
          obtain ⟨g, off, rfl, hfl⟩ := HC.out k hkx
          have fb := fail_bd (HFL.out _ (getF_mem hkx))
          have FL := Lib.hid (fun w' (kq : Kpt w w') => fl10 hfl kq)
          have FO := Lib.hid (fun w' => rfo_run ((fs.getD k []).getD 0 0) ((fs.getD k []).getD 1 0) ((fs.getD k []).getD 2 0) ((fs.getD k []).getD 3 0) ((fs.getD k []).getD 4 0) ((fs.getD k []).getD 5 0) ((fs.getD k []).getD 6 0) ((fs.getD k []).getD 7 0) ((fs.getD k []).getD 8 0) ((fs.getD k []).getD 9 0) w' fb.1 (by omega) (by omega) (by omega))
          rw [← fb.2.2.2.2.2.2.2] at FO
          have WO := Lib.hid (fun w' (kq : Kpt w w') => wor_run (fs.getD k []) ps (.slice a3 n3 cap3) w' (HFL.out _ (getF_mem hkx)) H20.out HPR.out (HPV.out.kpt kq))
          unfold flC at WO
          change Hid (∀ w', Kpt w w' → Calls Try.prog 25 _ w' fun e w'' => e = .returned (.int .i64 (worL ps (fs.getD k []))) ∧ Kpt w' w'') at WO
          obtain ⟨c0, c1, c2, c3, c4, c5, c6, c7, c8, c9⟩ := FL.out _ KC.out
          have HH := Lib.hid (fun n w' (k : Kpt w4 w') => has_run _ TL n w' (RT2.out.kpt k))
          have ho := HOUT.out k hkx
          have y1 : decide ((k : Int) < (fs.length : Int)) = true := decide_eq_true (by omega)
          have i2 : (0 : Int) ≤ (k : Int) := by omega
          have i3 : (k : Int) < (fs.length : Int) := by omega
          have m0 : IntKind.i64.wrap ((k : Int) + 1) = (k : Int) + 1 := IntWalk.i64_in _ (by omega)
          clear fb hfl
          generalize (fs.getD k []).getD 0 0 = z0 at *
          generalize (fs.getD k []).getD 1 0 = z1 at *
          generalize (fs.getD k []).getD 2 0 = z2 at *
          generalize (fs.getD k []).getD 3 0 = z3 at *
          generalize (fs.getD k []).getD 4 0 = z4 at *
          generalize (fs.getD k []).getD 5 0 = z5 at *
          generalize (fs.getD k []).getD 6 0 = z6 at *
          generalize (fs.getD k []).getD 7 0 = z7 at *
          generalize (fs.getD k []).getD 8 0 = z8 at *
          generalize (fs.getD k []).getD 9 0 = z9 at *
          generalize openL (fs.getD k []) = U at *
          generalize worL ps (fs.getD k []) = WV at *
          have HX := Lib.hid (fun w' (k : Kpt w4 w') => HH.out z0 w' k)
          have CE := Lib.hid (fun w' (k : Kpt w w') => FL.out w' k)
          clear HH
          generalize TL.contains z0 = BB at *
          by_cases hu : 0 < U
          · have q1 : decide ((0 : Int) < U) = true := decide_eq_true hu
            cases BB with
            | true =>
              clear ho hu
              go_wp2_with (first
                | (go_at_call 14; (with_reducible refine (FO.out _).mono ?_); rintro z w6 ⟨rfl, kk⟩; have HK := Lib.hid (ktr HK.out kk); have KC := Lib.hid (ktr KC.out kk); clear kk c0 c1 c2 c3 c4 c5 c6 c7 c8 c9; obtain ⟨c0, c1, c2, c3, c4, c5, c6, c7, c8, c9⟩ := CE.out _ KC.out)
                | (go_at_call 26; (with_reducible refine (HX.out _ HK.out).mono ?_); rintro z w7 ⟨rfl, rfl⟩)
                | (go_at_call 25; (with_reducible refine (WO.out _ KC.out).mono ?_); rintro z w7 ⟨rfl, kk⟩; have HK := Lib.hid (ktr HK.out kk); have KC := Lib.hid (ktr KC.out kk); clear kk c0 c1 c2 c3 c4 c5 c6 c7 c8 c9; obtain ⟨c0, c1, c2, c3, c4, c5, c6, c7, c8, c9⟩ := CE.out _ KC.out))
              go_roundw
              case rel => exact ⟨k + 1, by omega, by go_num, HK.out⟩
              case measure => simp [intOf]; omega
            | false =>
              obtain ⟨h1, h2⟩ := ho hu rfl
              have t1 : decide ((TL.length : Int) < m) = false := decide_eq_false h1
              by_cases hm0 : 0 < m
              · have t2 : decide ((0 : Int) < m) = true := decide_eq_true hm0
                have t3 : decide (LV < WV) = false := decide_eq_false (by have := h2 hm0; omega)
                clear ho hu h1 h2 hm0
                go_wp2_with (first
                | (go_at_call 14; (with_reducible refine (FO.out _).mono ?_); rintro z w6 ⟨rfl, kk⟩; have HK := Lib.hid (ktr HK.out kk); have KC := Lib.hid (ktr KC.out kk); clear kk c0 c1 c2 c3 c4 c5 c6 c7 c8 c9; obtain ⟨c0, c1, c2, c3, c4, c5, c6, c7, c8, c9⟩ := CE.out _ KC.out)
                | (go_at_call 26; (with_reducible refine (HX.out _ HK.out).mono ?_); rintro z w7 ⟨rfl, rfl⟩)
                | (go_at_call 25; (with_reducible refine (WO.out _ KC.out).mono ?_); rintro z w7 ⟨rfl, kk⟩; have HK := Lib.hid (ktr HK.out kk); have KC := Lib.hid (ktr KC.out kk); clear kk c0 c1 c2 c3 c4 c5 c6 c7 c8 c9; obtain ⟨c0, c1, c2, c3, c4, c5, c6, c7, c8, c9⟩ := CE.out _ KC.out))
                go_roundw
                case rel => exact ⟨k + 1, by omega, by go_num, HK.out⟩
                case measure => simp [intOf]; omega
              · have t2 : decide ((0 : Int) < m) = false := decide_eq_false hm0
                clear ho hu h1 h2 hm0
                go_wp2_with (first
                | (go_at_call 14; (with_reducible refine (FO.out _).mono ?_); rintro z w6 ⟨rfl, kk⟩; have HK := Lib.hid (ktr HK.out kk); have KC := Lib.hid (ktr KC.out kk); clear kk c0 c1 c2 c3 c4 c5 c6 c7 c8 c9; obtain ⟨c0, c1, c2, c3, c4, c5, c6, c7, c8, c9⟩ := CE.out _ KC.out)
                | (go_at_call 26; (with_reducible refine (HX.out _ HK.out).mono ?_); rintro z w7 ⟨rfl, rfl⟩)
                | (go_at_call 25; (with_reducible refine (WO.out _ KC.out).mono ?_); rintro z w7 ⟨rfl, kk⟩; have HK := Lib.hid (ktr HK.out kk); have KC := Lib.hid (ktr KC.out kk); clear kk c0 c1 c2 c3 c4 c5 c6 c7 c8 c9; obtain ⟨c0, c1, c2, c3, c4, c5, c6, c7, c8, c9⟩ := CE.out _ KC.out))
                go_roundw
                case rel => exact ⟨k + 1, by omega, by go_num, HK.out⟩
                case measure => simp [intOf]; omega
          · have q1 : decide ((0 : Int) < U) = false := decide_eq_false hu
            clear ho hu
            go_wp2_with (first
                | (go_at_call 14; (with_reducible refine (FO.out _).mono ?_); rintro z w6 ⟨rfl, kk⟩; have HK := Lib.hid (ktr HK.out kk); have KC := Lib.hid (ktr KC.out kk); clear kk c0 c1 c2 c3 c4 c5 c6 c7 c8 c9; obtain ⟨c0, c1, c2, c3, c4, c5, c6, c7, c8, c9⟩ := CE.out _ KC.out)
                | (go_at_call 26; (with_reducible refine (HX.out _ HK.out).mono ?_); rintro z w7 ⟨rfl, rfl⟩)
                | (go_at_call 25; (with_reducible refine (WO.out _ KC.out).mono ?_); rintro z w7 ⟨rfl, kk⟩; have HK := Lib.hid (ktr HK.out kk); have KC := Lib.hid (ktr KC.out kk); clear kk c0 c1 c2 c3 c4 c5 c6 c7 c8 c9; obtain ⟨c0, c1, c2, c3, c4, c5, c6, c7, c8, c9⟩ := CE.out _ KC.out))
            go_roundw
            case rel => exact ⟨k + 1, by omega, by go_num, HK.out⟩
            case measure => simp [intOf]; omega
        · have y1 : decide ((k : Int) < (fs.length : Int)) = false := decide_eq_false (by omega)
          have RT3 := Lib.hid (RT2.out.kpt HK.out)
          have hS := HS.out
          have hct := HCT.out
          clear RT2 HOUT HFL HPV HPR HF H20
          by_cases he : E2 = 0
          · have e1 : (E2 != 0) = false := by rw [he]; rfl
            by_cases hf : f ≤ m
            · have e2 : decide (m < f) = false := decide_eq_false (by omega)
              obtain ⟨s1, s2⟩ := hS he hf
              have e3 : decide (SL.length ≤ TL.length) = true := decide_eq_true s2
              have e4 : decide ((SL.length : Int) ≤ (TL.length : Int)) = true := decide_eq_true (by omega)
              have e5 : SL.length ≤ tc := by omega
              have e6 : (SL.length : Int) ≤ (tc : Int) := by omega
              have TKN : Hid (∀ w', Kpt wr w' → Reads w' (.slice ta SL.length tc) SL) := fun w' k => by
                have := reads_take (RT3.out.kpt k) s2
                rwa [← s1] at this
              clear he hf s1 s2 hS hct
              go_wp2_with (first
                | (go_at_call 10; (with_reducible refine (TQ.out _ KC.out).mono ?_); rintro z w8 ⟨sa, sc, rfl, rd, kk⟩; have RQ := Lib.hid rd; have K8 := Lib.hid kk; clear kk rd)
                | (go_at_call 20; (with_reducible refine (sameI_run _ _ SL _ RQ.out (TKN.out _ K8.out)).mono ?_); rintro z w9 ⟨rfl, kk⟩; have K9 := Lib.hid (ktr K8.out kk); clear kk))
              go_ret
              exact ⟨rfl, ktr KC.out K9.out⟩
            · have e2 : decide (m < f) = true := decide_eq_true (by omega)
              clear he hf hS hct
              go_wp2_with (go_at_call 10; (with_reducible refine (TQ.out _ KC.out).mono ?_); rintro z w8 ⟨sa, sc, rfl, rd, kk⟩; have K8 := Lib.hid kk; clear kk rd)
              go_ret
              exact ⟨rfl, ktr KC.out K8.out⟩
          · have e1 : (E2 != 0) = true := bne_iff_ne.2 he
            clear he hS hct
            go_wp2_with (go_at_call 10; (with_reducible refine (TQ.out _ KC.out).mono ?_); rintro z w8 ⟨sa, sc, rfl, rd, kk⟩; have K8 := Lib.hid kk; clear kk rd)
            go_ret
            exact ⟨rfl, ktr KC.out K8.out⟩

theorem rtop_plain (fv pv : Value) (m f : Int) (fs : List (List Int)) (ps : List Int) (w : World) (hF : ReadsF w fv fs) (hP : Reads w pv ps) :
    Calls Try.prog 6 #[fv, pv, .int .i64 m, .int .i64 f] w fun e w' => e = .returned (.bool true) ∧ Kpt w w' := by
  by_cases hE : topE fs ps m = 0
  · obtain ⟨h1, h2, -⟩ := topE_0 hE
    obtain ⟨h60, hfl⟩ := checksE_0 h1
    obtain ⟨h20, hpr⟩ := prsE_0 h2
    have TA := top_at fv pv ps fs
    have TO := top_is hE (qsO_is ps fs).1 (qsO_is ps fs).2
    have TP := fun w' (k : Kpt w w') => TA m w' (hF.kpt k) (hP.kpt k) hE
    obtain ⟨a, cap, rfl, -⟩ := id hF
    obtain ⟨a3, cap3, rfl, -⟩ := id hP
    by_cases hE2 : topE fs ps f = 0
    · exact rt_ok m f 0 _ (topN (qsO ps fs) f) _ a a3 cap ps.length cap3 ps fs w hF hP h20 hpr h60 hfl TO (fun _ h => topN_take h) TP
        (fun w' k => (TA f w' (hF.kpt k) (hP.kpt k) hE2).mono (by rintro e w'' ⟨a, c, rfl, -, hr, hk⟩; exact ⟨a, c, rfl, hr, hk⟩))
    · exact rt_ok m f (topE fs ps f) _ [] _ a a3 cap ps.length cap3 ps fs w hF hP h20 hpr h60 hfl TO (fun h => absurd h hE2) TP
        (fun w' k => (top_bad f _ _ ps fs w' (hF.kpt k) (hP.kpt k) hE2).mono (by rintro e w'' ⟨rfl, hk⟩; exact ⟨none, 0, rfl, reads_nil w'' none 0, hk⟩))
  · obtain ⟨a, cap, h, -⟩ := id hF
    obtain ⟨a3, cap3, h3, -⟩ := id hP
    exact rt_err m f (topE fs ps m) fv pv w (bne_iff_ne.2 hE) ⟨a, _, cap, h⟩ ⟨a3, _, cap3, h3⟩ (fun w' k => top_bad m fv pv ps fs w' (hF.kpt k) (hP.kpt k) hE)

end Go.Proofs.Ytmcbebjipiojoaa
