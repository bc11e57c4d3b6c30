/-
  What Find of package fail does; what must be of fails in any case.
-/
import Derived.Test.YtklaojahocjeiaaFailE
namespace Go.Proofs.Ytklaojahocjeiaa
open Go.RowKit Go.Maps
set_option linter.unusedVariables false

theorem find1_run (i f t c p d u x b y : Int) (B : Nat) (id : Int) (w : World) (hc : w.cell? ⟨B, 0, none⟩ = some (.int .i64 id)) :
    Calls Try.prog 70 #[.agg #[.int .i64 i, .int .i64 f, .int .i64 t, .int .i64 c, .int .i64 p, .int .i64 d, .int .i64 u, .int .i64 x, .int .i64 b, .int .i64 y], .pointer (some ⟨B, 0, none⟩)] w fun e w' => e = .returned (.bool (i == id)) ∧ Kpt w w' := by
  have c' := ((Kpt.refl w).alloc (.cells #[.int .i64 i, .int .i64 f, .int .i64 t, .int .i64 c, .int .i64 p, .int .i64 d, .int .i64 u, .int .i64 x, .int .i64 b, .int .i64 y] 49)).cell hc
  clear hc
  go_enter Try.func70, Try.ntmps70
  go_wp2
  go_ret
  exact ⟨rfl, by repeat (first | exact Kpt.refl _ | refine Kpt.alloc ?_ _)⟩
/-- the place of the first fail of this number, or -1 -/
def idxF (id : Int) : List (List Int) → Nat → Int
  | [], _ => -1
  | l :: fs, k => if l.getD 0 0 = id then (k : Int) else idxF id fs (k + 1)
set_option maxHeartbeats 2000000 in
theorem idxF_run (v : Value) (fs : List (List Int)) (B : Nat) (id : Int) (w : World) (hr : ReadsF w v fs) (hid : w.cell? ⟨B, 0, none⟩ = some (.int .i64 id)) :
    Calls Try.prog 69 #[v, .func (.func 70) #[] #[.pointer (some ⟨B, 0, none⟩)]] w fun e w' => e = .returned (.int .i64 (idxF id fs 0)) ∧ Kpt w w' := by
  obtain ⟨a, cap, rfl, hm, -, hc⟩ := hr
  unfold maxLen at hm
  have HC := Lib.hid hc
  have HI := Lib.hid hid
  have DR := Lib.hid (fun k (h : k < fs.length) => drop_at h)
  have HX : Hid (idxF id fs 0 = idxF id (fs.drop 0) 0) := rfl
  have DA : Hid (fs.drop fs.length = []) := List.drop_length
  obtain ⟨n, hn⟩ : ∃ n, n = fs.length := ⟨_, rfl⟩
  rw [← hn] at HC hm DR DA ⊢
  clear hc hn hid
  go_enter Try.func69, Try.ntmps69
  go_wp2
  go_loopw [8] (fun ii wr => ∃ k : Nat, k ≤ n ∧ ii = .int .i64 (k : Int) ∧ Hid (idxF id fs 0 = idxF id (fs.drop k) k) ∧ Hid (Kpt w wr)) (fun ii _ => n - (intOf ii).toNat)
  case atStart => exact ⟨0, Nat.zero_le _, rfl, HX.out, Kpt.refl _⟩
  case round =>
    obtain ⟨k, hk, rfl, HE, HK⟩ := hrel
    by_cases hlt : k < n
    · obtain ⟨g, off, rfl, hfl⟩ := HC.out k hlt
      have hf := hfl.kpt HK.out
      have dr := DR.out k hlt
      have he : idxF id fs 0 = (if (fs.getD k []).getD 0 0 = id then (k : Int) else idxF id (fs.drop (k + 1)) (k + 1)) := HE.out.trans (by rw [dr]; rfl)
      have c0 : wr.cell? ⟨g, off + k * 10, none⟩ = _ := hf 0 (by omega)
      have c1 : wr.cell? ⟨g, off + k * 10 + 1, none⟩ = _ := hf 1 (by omega)
      have c2 : wr.cell? ⟨g, off + k * 10 + 2, none⟩ = _ := hf 2 (by omega)
      have c3 : wr.cell? ⟨g, off + k * 10 + 3, none⟩ = _ := hf 3 (by omega)
      have c4 : wr.cell? ⟨g, off + k * 10 + 4, none⟩ = _ := hf 4 (by omega)
      have c5 : wr.cell? ⟨g, off + k * 10 + 5, none⟩ = _ := hf 5 (by omega)
      have c6 : wr.cell? ⟨g, off + k * 10 + 6, none⟩ = _ := hf 6 (by omega)
      have c7 : wr.cell? ⟨g, off + k * 10 + 7, none⟩ = _ := hf 7 (by omega)
      have c8 : wr.cell? ⟨g, off + k * 10 + 8, none⟩ = _ := hf 8 (by omega)
      have c9 : wr.cell? ⟨g, off + k * 10 + 9, none⟩ = _ := hf 9 (by omega)
      generalize fs.getD k [] = l at *
      generalize l.getD 0 0 = i at *
      generalize l.getD 1 0 = f at *
      generalize l.getD 2 0 = t at *
      generalize l.getD 3 0 = c at *
      generalize l.getD 4 0 = p at *
      generalize l.getD 5 0 = d at *
      generalize l.getD 6 0 = u at *
      generalize l.getD 7 0 = x at *
      generalize l.getD 8 0 = b at *
      generalize l.getD 9 0 = y at *
      have F1 := Lib.hid (find1_run i f t c p d u x b y B id wr (HK.out.cell HI.out))
      by_cases h1 : i = id
      · have z1 : (i == id) = true := beq_iff_eq.2 h1
        rw [if_pos h1] at he
        have HE2 := Lib.hid he
        rw [z1] at F1
        clear he dr hf hfl HE h1
        go_wp2_with (go_at_call 70; (with_reducible refine F1.out.mono ?_); rintro e w1 ⟨rfl, k1⟩; have K1 := Lib.hid (ktr HK.out k1); clear k1)
        go_ret
        exact ⟨ret_int HE2.out.symm, K1.out⟩
      · have z1 : (i == id) = false := beq_eq_false_iff_ne.2 h1
        rw [if_neg h1] at he
        have HE2 := Lib.hid he
        rw [z1] at F1
        clear he dr hf hfl HE h1
        go_wp2_with (go_at_call 70; (with_reducible refine F1.out.mono ?_); rintro e w1 ⟨rfl, k1⟩; have K1 := Lib.hid (ktr HK.out k1); clear k1)
        go_roundw
        case rel => exact ⟨k + 1, by omega, by go_num, HE2.out, K1.out⟩
        case measure => simp [intOf]; omega
    · obtain rfl : k = n := by omega
      rw [DA.out] at HE
      go_wp2
      go_ret
      exact ⟨ret_int HE.out.symm, HK.out⟩
theorem find_run (v : Value) (fs : List (List Int)) (id : Int) (w : World) (hr : ReadsF w v fs) :
    (checksE fs ≠ 0 → Calls Try.prog 49 #[v, .int .i64 id] w fun e w' => e = .returned (.tuple #[.int .i64 0, .int .i64 (checksE fs)]) ∧ Kpt w w') ∧
    (checksE fs = 0 → idxF id fs 0 < 0 → Calls Try.prog 49 #[v, .int .i64 id] w fun e w' => e = .returned (.tuple #[.int .i64 0, .int .i64 5]) ∧ Kpt w w') ∧
    (checksE fs = 0 → ¬ idxF id fs 0 < 0 → Calls Try.prog 49 #[v, .int .i64 id] w fun e w' => e = .returned (.tuple #[.int .i64 (idxF id fs 0), .int .i64 0]) ∧ Kpt w w') := by
  have CK := Lib.hid (fun w' (k : Kpt w w') => checks_run v fs w' (hr.kpt k))
  have IX := Lib.hid (fun w' (k : Kpt w w') B hid => idxF_run v fs B id w' (hr.kpt k) hid)
  have KA : Hid (Kpt w (w.alloc (.cells #[.int .i64 id] 3))) := (Kpt.refl w).alloc _
  have BA := Lib.hid (Blk.made w #[.int .i64 id] 3)
  obtain ⟨a, cap, rfl, hm, -, -⟩ := hr
  unfold maxLen at hm
  generalize fs.length = n at *
  refine ⟨fun h => ?_, fun h h2 => ?_, fun h h2 => ?_⟩
  · have z0 : (checksE fs != 0) = true := bne_iff_ne.2 h
    clear h
    generalize checksE fs = E at *
    go_enter Try.func49, Try.ntmps49
    go_wp2_with (go_at_call 27; (with_reducible refine (CK.out _ KA.out).mono ?_); rintro e w1 ⟨rfl, k1⟩; have K1 := Lib.hid (ktr KA.out k1); clear k1)
    go_ret2
    exact ⟨rfl, K1.out⟩
  · rw [h] at CK
    generalize idxF id fs 0 = r at *
    go_enter Try.func49, Try.ntmps49
    go_wp2_with (first
      | (go_at_call 27; (with_reducible refine (CK.out _ KA.out).mono ?_); rintro e w1 ⟨rfl, k1⟩; have K1 := Lib.hid (ktr KA.out k1); have B1 : Hid (Blk w1 w.heap.size #[.int .i64 id] 3) := BA.out.kpt k1; clear k1)
      | (go_at_call 69; (with_reducible refine (IX.out _ K1.out _ (B1.out.cell 0)).mono ?_); rintro e w2 ⟨rfl, k2⟩; have K2 := Lib.hid (ktr K1.out k2); clear k2))
    go_ret2
    exact ⟨rfl, K2.out⟩
  · rw [h] at CK
    generalize idxF id fs 0 = r at *
    go_enter Try.func49, Try.ntmps49
    go_wp2_with (first
      | (go_at_call 27; (with_reducible refine (CK.out _ KA.out).mono ?_); rintro e w1 ⟨rfl, k1⟩; have K1 := Lib.hid (ktr KA.out k1); have B1 : Hid (Blk w1 w.heap.size #[.int .i64 id] 3) := BA.out.kpt k1; clear k1)
      | (go_at_call 69; (with_reducible refine (IX.out _ K1.out _ (B1.out.cell 0)).mono ?_); rintro e w2 ⟨rfl, k2⟩; have K2 := Lib.hid (ktr K1.out k2); clear k2))
    go_ret2
    exact ⟨rfl, K2.out⟩

theorem some_run (w : World) : Calls Try.prog 39 #[] w fun e w' => e = .returned (.agg #[.int .i64 7, .int .i64 1, .int .i64 2, .int .i64 0, .int .i64 3, .int .i64 739935, .int .i64 100, .int .i64 0, .int .i64 0, .int .i64 0]) ∧ Kpt w w' := by
  have R1 := Lib.hid (Blk.made w #[.int .i64 0, .int .i64 0, .int .i64 0, .int .i64 0, .int .i64 0, .int .i64 0, .int .i64 0, .int .i64 0, .int .i64 0, .int .i64 0] 49)
  have K1 : Hid (Kpt w (w.alloc (.cells #[.int .i64 0, .int .i64 0, .int .i64 0, .int .i64 0, .int .i64 0, .int .i64 0, .int .i64 0, .int .i64 0, .int .i64 0, .int .i64 0] 49))) := (Kpt.refl w).alloc _
  go_enter Try.func39, Try.ntmps39
  go_wp2_with (refine wp_storeF rfl (.tmp 0) (.tmp 1) rfl w.heap.size _ _ rfl rfl R1.out rfl rfl (by simp [Value.oneCell']) ?_; intro w9 r9 k9 _; have R9 := Lib.hid r9; have K9 := Lib.hid (k9 _ _ K1.out (Nat.le_refl _)); clear r9 k9)
  exact bodyPost_ret (v := .agg #[.int .i64 7, .int .i64 1, .int .i64 2, .int .i64 0, .int .i64 3, .int .i64 739935, .int .i64 100, .int .i64 0, .int .i64 0, .int .i64 0]) (results_cell_row Try.results39 _ _ w.heap.size _ _ _ _ rfl R9.out Try.underlying49 rfl Try.sizeFail) rfl ⟨rfl, K9.out⟩

end Go.Proofs.Ytklaojahocjeiaa
