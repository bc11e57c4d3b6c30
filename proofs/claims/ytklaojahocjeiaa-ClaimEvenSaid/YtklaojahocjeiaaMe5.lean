/-
  Merged: FailF, SameD, SameP, ClmK, IdsOk, ClmM, SameF.
-/
import Derived.Test.YtklaojahocjeiaaMe1
import Derived.Test.YtklaojahocjeiaaTrip
import Derived.Test.YtklaojahocjeiaaKept
import Derived.Deep.QuietTactic
import Derived.BigQuiet
import Derived.Test.YtklaojahocjeiaaMe3
import Derived.Test.YtklaojahocjeiaaMe4
-- FailF
namespace Go.Proofs.Ytklaojahocjeiaa
open Go.RowKit Go.Maps
set_option linter.unusedVariables false

theorem find1_run (i f t c p d u x b y : Int) (B : Nat) (id : Int) (w : World) (hc : w.cell? ⟨B, 0, none⟩ = some (.int .i64 id)) :
    Calls Try.prog 70 #[.agg #[.int .i64 i, .int .i64 f, .int .i64 t, .int .i64 c, .int .i64 p, .int .i64 d, .int .i64 u, .int .i64 x, .int .i64 b, .int .i64 y], .pointer (some ⟨B, 0, none⟩)] w fun e w' => e = .returned (.bool (i == id)) ∧ Kpt w w' := by
  have c' := ((Kpt.refl w).alloc (.cells #[.int .i64 i, .int .i64 f, .int .i64 t, .int .i64 c, .int .i64 p, .int .i64 d, .int .i64 u, .int .i64 x, .int .i64 b, .int .i64 y] 49)).cell hc
  clear hc
  go_enter Try.func70, Try.ntmps70
  go_wp2
  go_ret
  exact ⟨rfl, by repeat (first | exact Kpt.refl _ | refine Kpt.alloc ?_ _)⟩
/-- the place of the first fail of this number, or -1 -/
def idxF (id : Int) : List (List Int) → Nat → Int
  | [], _ => -1
  | l :: fs, k => if l.getD 0 0 = id then (k : Int) else idxF id fs (k + 1)
set_option maxHeartbeats 2000000 in
theorem idxF_run (v : Value) (fs : List (List Int)) (B : Nat) (id : Int) (w : World) (hr : ReadsF w v fs) (hid : w.cell? ⟨B, 0, none⟩ = some (.int .i64 id)) :
    Calls Try.prog 69 #[v, .func (.func 70) #[] #[.pointer (some ⟨B, 0, none⟩)]] w fun e w' => e = .returned (.int .i64 (idxF id fs 0)) ∧ Kpt w w' := by
  obtain ⟨a, cap, rfl, hm, -, hc⟩ := hr
  unfold maxLen at hm
  have HC := Lib.hid hc
  have HI := Lib.hid hid
  have DR := Lib.hid (fun k (h : k < fs.length) => drop_at h)
  have HX : Hid (idxF id fs 0 = idxF id (fs.drop 0) 0) := rfl
  have DA : Hid (fs.drop fs.length = []) := List.drop_length
  obtain ⟨n, hn⟩ : ∃ n, n = fs.length := ⟨_, rfl⟩
  rw [← hn] at HC hm DR DA ⊢
  clear hc hn hid
  go_enter Try.func69, Try.ntmps69
  go_wp2
  go_loopw [8] (fun ii wr => ∃ k : Nat, k ≤ n ∧ ii = .int .i64 (k : Int) ∧ Hid (idxF id fs 0 = idxF id (fs.drop k) k) ∧ Hid (Kpt w wr)) (fun ii _ => n - (intOf ii).toNat)
  case atStart => exact ⟨0, Nat.zero_le _, rfl, HX.out, Kpt.refl _⟩
  case round =>
    obtain ⟨k, hk, rfl, HE, HK⟩ := hrel
    by_cases hlt : k < n
    · obtain ⟨g, off, rfl, hfl⟩ := HC.out k hlt
      have hf := hfl.kpt HK.out
      have dr := DR.out k hlt
      have he : idxF id fs 0 = (if (fs.getD k []).getD 0 0 = id then (k : Int) else idxF id (fs.drop (k + 1)) (k + 1)) := HE.out.trans (by rw [dr]; rfl)
      have c0 : wr.cell? ⟨g, off + k * 10, none⟩ = _ := hf 0 (by omega)
      have c1 : wr.cell? ⟨g, off + k * 10 + 1, none⟩ = _ := hf 1 (by omega)
      have c2 : wr.cell? ⟨g, off + k * 10 + 2, none⟩ = _ := hf 2 (by omega)
      have c3 : wr.cell? ⟨g, off + k * 10 + 3, none⟩ = _ := hf 3 (by omega)
      have c4 : wr.cell? ⟨g, off + k * 10 + 4, none⟩ = _ := hf 4 (by omega)
      have c5 : wr.cell? ⟨g, off + k * 10 + 5, none⟩ = _ := hf 5 (by omega)
      have c6 : wr.cell? ⟨g, off + k * 10 + 6, none⟩ = _ := hf 6 (by omega)
      have c7 : wr.cell? ⟨g, off + k * 10 + 7, none⟩ = _ := hf 7 (by omega)
      have c8 : wr.cell? ⟨g, off + k * 10 + 8, none⟩ = _ := hf 8 (by omega)
      have c9 : wr.cell? ⟨g, off + k * 10 + 9, none⟩ = _ := hf 9 (by omega)
      generalize fs.getD k [] = l at *
      generalize l.getD 0 0 = i at *
      generalize l.getD 1 0 = f at *
      generalize l.getD 2 0 = t at *
      generalize l.getD 3 0 = c at *
      generalize l.getD 4 0 = p at *
      generalize l.getD 5 0 = d at *
      generalize l.getD 6 0 = u at *
      generalize l.getD 7 0 = x at *
      generalize l.getD 8 0 = b at *
      generalize l.getD 9 0 = y at *
      have F1 := Lib.hid (find1_run i f t c p d u x b y B id wr (HK.out.cell HI.out))
      by_cases h1 : i = id
      · have z1 : (i == id) = true := beq_iff_eq.2 h1
        rw [if_pos h1] at he
        have HE2 := Lib.hid he
        rw [z1] at F1
        clear he dr hf hfl HE h1
        go_wp2_with (go_at_call 70; (with_reducible refine F1.out.mono ?_); rintro e w1 ⟨rfl, k1⟩; have K1 := Lib.hid (ktr HK.out k1); clear k1)
        go_ret
        exact ⟨ret_int HE2.out.symm, K1.out⟩
      · have z1 : (i == id) = false := beq_eq_false_iff_ne.2 h1
        rw [if_neg h1] at he
        have HE2 := Lib.hid he
        rw [z1] at F1
        clear he dr hf hfl HE h1
        go_wp2_with (go_at_call 70; (with_reducible refine F1.out.mono ?_); rintro e w1 ⟨rfl, k1⟩; have K1 := Lib.hid (ktr HK.out k1); clear k1)
        go_roundw
        case rel => exact ⟨k + 1, by omega, by go_num, HE2.out, K1.out⟩
        case measure => simp [intOf]; omega
    · obtain rfl : k = n := by omega
      rw [DA.out] at HE
      go_wp2
      go_ret
      exact ⟨ret_int HE.out.symm, HK.out⟩
theorem find_run (v : Value) (fs : List (List Int)) (id : Int) (w : World) (hr : ReadsF w v fs) :
    (checksE fs ≠ 0 → Calls Try.prog 49 #[v, .int .i64 id] w fun e w' => e = .returned (.tuple #[.int .i64 0, .int .i64 (checksE fs)]) ∧ Kpt w w') ∧
    (checksE fs = 0 → idxF id fs 0 < 0 → Calls Try.prog 49 #[v, .int .i64 id] w fun e w' => e = .returned (.tuple #[.int .i64 0, .int .i64 5]) ∧ Kpt w w') ∧
    (checksE fs = 0 → ¬ idxF id fs 0 < 0 → Calls Try.prog 49 #[v, .int .i64 id] w fun e w' => e = .returned (.tuple #[.int .i64 (idxF id fs 0), .int .i64 0]) ∧ Kpt w w') := by
  have CK := Lib.hid (fun w' (k : Kpt w w') => checks_run v fs w' (hr.kpt k))
  have IX := Lib.hid (fun w' (k : Kpt w w') B hid => idxF_run v fs B id w' (hr.kpt k) hid)
  have KA : Hid (Kpt w (w.alloc (.cells #[.int .i64 id] 3))) := (Kpt.refl w).alloc _
  have BA := Lib.hid (Blk.made w #[.int .i64 id] 3)
  obtain ⟨a, cap, rfl, hm, -, -⟩ := hr
  unfold maxLen at hm
  generalize fs.length = n at *
  refine ⟨fun h => ?_, fun h h2 => ?_, fun h h2 => ?_⟩
  · have z0 : (checksE fs != 0) = true := bne_iff_ne.2 h
    clear h
    generalize checksE fs = E at *
    go_enter Try.func49, Try.ntmps49
    go_wp2_with (go_at_call 27; (with_reducible refine (CK.out _ KA.out).mono ?_); rintro e w1 ⟨rfl, k1⟩; have K1 := Lib.hid (ktr KA.out k1); clear k1)
    go_ret2
    exact ⟨rfl, K1.out⟩
  · rw [h] at CK
    generalize idxF id fs 0 = r at *
    go_enter Try.func49, Try.ntmps49
    go_wp2_with (first
      | (go_at_call 27; (with_reducible refine (CK.out _ KA.out).mono ?_); rintro e w1 ⟨rfl, k1⟩; have K1 := Lib.hid (ktr KA.out k1); have B1 : Hid (Blk w1 w.heap.size #[.int .i64 id] 3) := BA.out.kpt k1; clear k1)
      | (go_at_call 69; (with_reducible refine (IX.out _ K1.out _ (B1.out.cell 0)).mono ?_); rintro e w2 ⟨rfl, k2⟩; have K2 := Lib.hid (ktr K1.out k2); clear k2))
    go_ret2
    exact ⟨rfl, K2.out⟩
  · rw [h] at CK
    generalize idxF id fs 0 = r at *
    go_enter Try.func49, Try.ntmps49
    go_wp2_with (first
      | (go_at_call 27; (with_reducible refine (CK.out _ KA.out).mono ?_); rintro e w1 ⟨rfl, k1⟩; have K1 := Lib.hid (ktr KA.out k1); have B1 : Hid (Blk w1 w.heap.size #[.int .i64 id] 3) := BA.out.kpt k1; clear k1)
      | (go_at_call 69; (with_reducible refine (IX.out _ K1.out _ (B1.out.cell 0)).mono ?_); rintro e w2 ⟨rfl, k2⟩; have K2 := Lib.hid (ktr K1.out k2); clear k2))
    go_ret2
    exact ⟨rfl, K2.out⟩

theorem some_run (w : World) : Calls Try.prog 39 #[] w fun e w' => e = .returned (.agg #[.int .i64 7, .int .i64 1, .int .i64 2, .int .i64 0, .int .i64 3, .int .i64 739935, .int .i64 100, .int .i64 0, .int .i64 0, .int .i64 0]) ∧ Kpt w w' := by
  have R1 := Lib.hid (Blk.made w #[.int .i64 0, .int .i64 0, .int .i64 0, .int .i64 0, .int .i64 0, .int .i64 0, .int .i64 0, .int .i64 0, .int .i64 0, .int .i64 0] 49)
  have K1 : Hid (Kpt w (w.alloc (.cells #[.int .i64 0, .int .i64 0, .int .i64 0, .int .i64 0, .int .i64 0, .int .i64 0, .int .i64 0, .int .i64 0, .int .i64 0, .int .i64 0] 49))) := (Kpt.refl w).alloc _
  go_enter Try.func39, Try.ntmps39
  go_wp2_with (refine wp_storeF rfl (.tmp 0) (.tmp 1) rfl w.heap.size _ _ rfl rfl R1.out rfl rfl (by simp [Value.oneCell']) ?_; intro w9 r9 k9 _; have R9 := Lib.hid r9; have K9 := Lib.hid (k9 _ _ K1.out (Nat.le_refl _)); clear r9 k9)
  exact bodyPost_ret (v := .agg #[.int .i64 7, .int .i64 1, .int .i64 2, .int .i64 0, .int .i64 3, .int .i64 739935, .int .i64 100, .int .i64 0, .int .i64 0, .int .i64 0]) (results_cell_row Try.results39 _ _ w.heap.size _ _ _ _ rfl R9.out Try.underlying49 rfl Try.sizeFail) rfl ⟨rfl, K9.out⟩

end Go.Proofs.Ytklaojahocjeiaa

-- SameD
namespace Go.Proofs.Ytklaojahocjeiaa
open Go.RowKit
set_option linter.unusedVariables false

theorem neqD (a b c d e f : Int) (w : World) : (binOp .neq 51 (.agg #[.int .i64 a, .int .i64 b, .int .i64 c]) (.agg #[.int .i64 d, .int .i64 e, .int .i64 f])).run Try.prog w = .ok (.bool (!decide ((a, b, c) = (d, e, f)))) w := by
  have u3 := Try.underlying3
  have hS : Try.prog.underlying 51 = some (.struct (Try.prog.fieldsOf 51)) := by kernel_rfl
  have hp : Try.prog.stoodInHeld 51 = false := by kernel_rfl
  have a3 : ∀ w, (isAgg 3).run Try.prog w = .ok false w := fun w => by kernel_rfl
  have h : ∀ w, (Op.equalIn (9999 + 1) 51 (.agg #[.int .i64 a, .int .i64 b, .int .i64 c]) (.agg #[.int .i64 d, .int .i64 e, .int .i64 f])).run Try.prog w = .ok (decide ((a, b, c) = (d, e, f))) w := fun w => by
    rw [run_equalIn_agg w 9999 51 _ _ hS hp]
    simp only [Program.fieldsOf, Try.underlying51]
    go_simp
    by_cases h1 : a = d <;> by_cases h2 : b = e <;> by_cases h3 : c = f <;> simp [h1, h2, h3]
  simp only [binOp, Op.equal, Op.maxDepth, Sem.run_bind]
  rw [show (10000 : Nat) = 9999 + 1 from rfl, h]
  simp

theorem sameD_len (a1 a2 : Option Addr) (n1 n2 c1 c2 : Nat) (w : World) (h : n1 ≠ n2) : Calls Try.prog 20 #[.slice a1 n1 c1, .slice a2 n2 c2] w fun e w' => e = .returned (.bool false) ∧ Kpt w w' := by
  have q : ((n1 : Int) != (n2 : Int)) = true := bne_iff_ne.2 (by omega)
  go_enter Try.func20, Try.ntmps20
  go_wp2
  go_ret
  exact ⟨rfl, Kpt.refl _⟩

theorem sameD_none (a1 a2 : Option Addr) (c1 c2 : Nat) (w : World) : Calls Try.prog 20 #[.slice a1 0 c1, .slice a2 0 c2] w fun e w' => e = .returned (.bool true) ∧ Kpt w w' := by
  go_enter Try.func20, Try.ntmps20
  go_wp2
  go_loop [5] (fun i => i = .int .i64 0) (fun _ => 0)
  case atStart => exact rfl
  case round =>
    obtain rfl := hrel
    go_wp2
    go_ret
    exact ⟨rfl, Kpt.refl _⟩

set_option maxHeartbeats 1000000 in
theorem sameD_some (b1 o1 c1 b2 o2 c2 : Nat) (ps : List (Int × Int × Int)) (w : World) (hm : ps.length ≤ maxLen) (h1 : ∀ j, j < ps.length → PtAt w b1 (o1 + j * 3) (ps.getD j default)) (h2 : ∀ j, j < ps.length → PtAt w b2 (o2 + j * 3) (ps.getD j default)) :
    Calls Try.prog 20 #[.slice (some ⟨b1, o1, none⟩) ps.length c1, .slice (some ⟨b2, o2, none⟩) ps.length c2] w fun e w' => e = .returned (.bool true) ∧ Kpt w w' := by
  unfold maxLen at hm
  have H1 := Lib.hid h1; have H2 := Lib.hid h2
  clear h1 h2
  go_enter Try.func20, Try.ntmps20
  go_wp2
  go_loopw [5] (fun i wr => ∃ k : Nat, k ≤ ps.length ∧ i = .int .i64 k ∧ Hid (Kpt w wr)) (fun i _ => ps.length - (intOf i).toNat)
  case atStart => exact ⟨0, Nat.zero_le _, rfl, Kpt.refl _⟩
  case round =>
    obtain ⟨k, hk, rfl, HK⟩ := hrel
    by_cases hlt : k < ps.length
    · obtain ⟨c0, c1, c2⟩ := (H1.out k hlt).kpt HK.out
      obtain ⟨d0, d1, d2⟩ := (H2.out k hlt).kpt HK.out
      generalize ps.getD k default = p at c0 c1 c2 d0 d1 d2
      obtain ⟨A, U, N⟩ := p
      simp only at c0 c1 c2 d0 d1 d2
      have qn := neqD A U N A U N
      rw [decide_eq_true rfl, Bool.not_true] at qn
      have b0 : (0 : Int) ≤ (k : Int) := by omega
      have b1 : (k : Int) < (ps.length : Int) := by omega
      go_wp2
      go_quiet (fail)
      go_wp2
      go_roundw
      case rel => exact ⟨k + 1, by omega, by go_num, Kpt.drewN HK.out _⟩
      case measure => simp [intOf]; omega
    · go_wp2
      go_ret
      exact ⟨rfl, HK.out⟩

theorem sameD_any (v u : Value) (ps : List (Int × Int × Int)) (w : World) (h1 : ReadsP w v ps) (h2 : ReadsP w u ps) : Calls Try.prog 20 #[v, u] w fun e w' => e = .returned (.bool true) ∧ Kpt w w' := by
  have hm := h1.len
  rcases h1.cell with ⟨rfl, a, c, rfl⟩ | ⟨h0, b1, o1, c1, rfl, k1⟩
  · rcases h2.cell with ⟨_, a', c', rfl⟩ | ⟨h0, _⟩
    · exact sameD_none a a' c c' w
    · simp at h0
  · rcases h2.cell with ⟨e, _⟩ | ⟨_, b2, o2, c2, rfl, k2⟩
    · rw [e] at h0; simp at h0
    · exact sameD_some b1 o1 c1 b2 o2 c2 ps w hm k1 k2

end Go.Proofs.Ytklaojahocjeiaa

-- SameP
namespace Go.Proofs.Ytklaojahocjeiaa
open Go.RowKit
set_option linter.unusedVariables false

theorem neqP (a b c d e f : Int) (w : World) : (binOp .neq 53 (.agg #[.int .i64 a, .int .i64 b, .int .i64 c]) (.agg #[.int .i64 d, .int .i64 e, .int .i64 f])).run Try.prog w = .ok (.bool (!decide ((a, b, c) = (d, e, f)))) w := by
  have u3 := Try.underlying3
  have hS : Try.prog.underlying 53 = some (.struct (Try.prog.fieldsOf 53)) := by kernel_rfl
  have hp : Try.prog.stoodInHeld 53 = false := by kernel_rfl
  have a3 : ∀ w, (isAgg 3).run Try.prog w = .ok false w := fun w => by kernel_rfl
  have h : ∀ w, (Op.equalIn (9999 + 1) 53 (.agg #[.int .i64 a, .int .i64 b, .int .i64 c]) (.agg #[.int .i64 d, .int .i64 e, .int .i64 f])).run Try.prog w = .ok (decide ((a, b, c) = (d, e, f))) w := fun w => by
    rw [run_equalIn_agg w 9999 53 _ _ hS hp]
    simp only [Program.fieldsOf, Try.underlying53]
    go_simp
    by_cases h1 : a = d <;> by_cases h2 : b = e <;> by_cases h3 : c = f <;> simp [h1, h2, h3]
  simp only [binOp, Op.equal, Op.maxDepth, Sem.run_bind]
  rw [show (10000 : Nat) = 9999 + 1 from rfl, h]
  simp

theorem sameP_len (a1 a2 : Option Addr) (n1 n2 c1 c2 : Nat) (w : World) (h : n1 ≠ n2) : Calls Try.prog 21 #[.slice a1 n1 c1, .slice a2 n2 c2] w fun e w' => e = .returned (.bool false) ∧ Kpt w w' := by
  have q : ((n1 : Int) != (n2 : Int)) = true := bne_iff_ne.2 (by omega)
  go_enter Try.func21, Try.ntmps21
  go_wp2
  go_ret
  exact ⟨rfl, Kpt.refl _⟩

theorem sameP_none (a1 a2 : Option Addr) (c1 c2 : Nat) (w : World) : Calls Try.prog 21 #[.slice a1 0 c1, .slice a2 0 c2] w fun e w' => e = .returned (.bool true) ∧ Kpt w w' := by
  go_enter Try.func21, Try.ntmps21
  go_wp2
  go_loop [5] (fun i => i = .int .i64 0) (fun _ => 0)
  case atStart => exact rfl
  case round =>
    obtain rfl := hrel
    go_wp2
    go_ret
    exact ⟨rfl, Kpt.refl _⟩

set_option maxHeartbeats 1000000 in
theorem sameP_some (b1 o1 c1 b2 o2 c2 : Nat) (ps : List (Int × Int × Int)) (w : World) (hm : ps.length ≤ maxLen) (h1 : ∀ j, j < ps.length → PtAt w b1 (o1 + j * 3) (ps.getD j default)) (h2 : ∀ j, j < ps.length → PtAt w b2 (o2 + j * 3) (ps.getD j default)) :
    Calls Try.prog 21 #[.slice (some ⟨b1, o1, none⟩) ps.length c1, .slice (some ⟨b2, o2, none⟩) ps.length c2] w fun e w' => e = .returned (.bool true) ∧ Kpt w w' := by
  unfold maxLen at hm
  have H1 := Lib.hid h1; have H2 := Lib.hid h2
  clear h1 h2
  go_enter Try.func21, Try.ntmps21
  go_wp2
  go_loopw [5] (fun i wr => ∃ k : Nat, k ≤ ps.length ∧ i = .int .i64 k ∧ Hid (Kpt w wr)) (fun i _ => ps.length - (intOf i).toNat)
  case atStart => exact ⟨0, Nat.zero_le _, rfl, Kpt.refl _⟩
  case round =>
    obtain ⟨k, hk, rfl, HK⟩ := hrel
    by_cases hlt : k < ps.length
    · obtain ⟨c0, c1, c2⟩ := (H1.out k hlt).kpt HK.out
      obtain ⟨d0, d1, d2⟩ := (H2.out k hlt).kpt HK.out
      generalize ps.getD k default = p at c0 c1 c2 d0 d1 d2
      obtain ⟨A, U, N⟩ := p
      simp only at c0 c1 c2 d0 d1 d2
      have qn := neqP A U N A U N
      rw [decide_eq_true rfl, Bool.not_true] at qn
      have b0 : (0 : Int) ≤ (k : Int) := by omega
      have b1 : (k : Int) < (ps.length : Int) := by omega
      go_wp2
      go_quiet (fail)
      go_wp2
      go_roundw
      case rel => exact ⟨k + 1, by omega, by go_num, Kpt.drewN HK.out _⟩
      case measure => simp [intOf]; omega
    · go_wp2
      go_ret
      exact ⟨rfl, HK.out⟩

theorem sameP_any (v u : Value) (ps : List (Int × Int × Int)) (w : World) (h1 : ReadsP w v ps) (h2 : ReadsP w u ps) : Calls Try.prog 21 #[v, u] w fun e w' => e = .returned (.bool true) ∧ Kpt w w' := by
  have hm := h1.len
  rcases h1.cell with ⟨rfl, a, c, rfl⟩ | ⟨h0, b1, o1, c1, rfl, k1⟩
  · rcases h2.cell with ⟨_, a', c', rfl⟩ | ⟨h0, _⟩
    · exact sameP_none a a' c c' w
    · simp at h0
  · rcases h2.cell with ⟨e, _⟩ | ⟨_, b2, o2, c2, rfl, k2⟩
    · rw [e] at h0; simp at h0
    · exact sameP_some b1 o1 c1 b2 o2 c2 ps w hm k1 k2

end Go.Proofs.Ytklaojahocjeiaa

-- ClmK
namespace Go.Proofs.Ytklaojahocjeiaa
open Go.RowKit
set_option linter.unusedVariables false

def ck1 : List Int := [7, 1, 2, 0, 3, 739935, 100, 0, 0, 0]
def ckA : Array Value := #[.int .i64 7, .int .i64 1, .int .i64 2, .int .i64 0, .int .i64 3, .int .i64 739935, .int .i64 100, .int .i64 0, .int .i64 0, .int .i64 0]
theorem rf_ck (w : World) : ReadsF (w.alloc (.cells #[.int .i64 7, .int .i64 1, .int .i64 2, .int .i64 0, .int .i64 3, .int .i64 739935, .int .i64 100, .int .i64 0, .int .i64 0, .int .i64 0] 49)) (.slice (some ⟨w.heap.size, 0, none⟩) 1 1) [ck1] := by
  have B := Blk.made w #[.int .i64 7, .int .i64 1, .int .i64 2, .int .i64 0, .int .i64 3, .int .i64 739935, .int .i64 100, .int .i64 0, .int .i64 0, .int .i64 0] 49
  refine ⟨_, 1, rfl, by unfold maxLen; decide, by intro l hl; rw [List.mem_singleton.1 hl]; unfold FlB ck1; decide, fun k hk => ⟨w.heap.size, 0, rfl, fun j hj => ?_⟩⟩
  obtain rfl : k = 0 := by simp at hk; exact hk
  rw [Nat.zero_mul, Nat.zero_add, B.cell]
  rcases (show j = 0 ∨ j = 1 ∨ j = 2 ∨ j = 3 ∨ j = 4 ∨ j = 5 ∨ j = 6 ∨ j = 7 ∨ j = 8 ∨ j = 9 by omega) with rfl | rfl | rfl | rfl | rfl | rfl | rfl | rfl | rfl | rfl <;> rfl
theorem ck_cw : cwE 3 2500 2 3 [ck1] = 0 := by decide +kernel
theorem ck_hit : hit 3 [ck1] [ck1].length = [(⟨0, by decide⟩ : Fin [ck1].length)] := by decide +kernel
theorem ck_d : duesOf 2500 [ck1] [(⟨0, by decide⟩ : Fin [ck1].length)] = [(1, 2, 25)] := by decide +kernel
theorem ck_p : pstsOf 3 2 3 [ck1] [(⟨0, by decide⟩ : Fin [ck1].length)] = [(1, 3, -66), (2, 3, 66)] := by decide +kernel
theorem ck_g : gro 2 3 [ck1] [(⟨0, by decide⟩ : Fin [ck1].length)] = [[7, 1, 2, 0, 3, 739935, 166, 0, 0, 0]] := by decide +kernel
theorem ck_u : unL (gro 2 3 [ck1] [(⟨0, by decide⟩ : Fin [ck1].length)]) 0 = 166 := by decide +kernel
theorem Try.sizeEvt : (Try.prog.info? 23).map (·.size) = some 4 := by kernel_rfl
theorem split_run (w : World) : Calls Try.prog 38 #[] w fun e w' => e = .returned (.agg #[.int .i64 3, .int .i64 2500, .int .i64 2, .int .i64 3]) ∧ Kpt w w' := by
  have R9 := Lib.hid (Blk.made w #[.int .i64 3, .int .i64 2500, .int .i64 2, .int .i64 3] 23)
  go_enter Try.func38, Try.ntmps38
  go_wp2
  exact bodyPost_ret (v := .agg #[.int .i64 3, .int .i64 2500, .int .i64 2, .int .i64 3]) (results_cell_row Try.results38 _ _ w.heap.size _ _ _ _ rfl R9.out Try.underlying23 rfl Try.sizeEvt) rfl ⟨rfl, (Kpt.refl w).alloc _⟩
theorem inp_1 : InP [((1 : Int), (2 : Int), (25 : Int))] := by
  intro p hp; rw [List.mem_singleton.1 hp]; decide
theorem inp_2 : InP [((1 : Int), (3 : Int), (-66 : Int)), (2, 3, 66)] := by
  intro p hp
  rcases List.mem_cons.1 hp with rfl | hp
  · decide
  · rw [List.mem_singleton.1 hp]; decide
theorem ckr_1 {w : World} {g : Nat} {T : TypeId} (h : Blk w g #[.int .i64 1, .int .i64 2, .int .i64 25] T) : ReadsP w (.slice (some ⟨g, 0, none⟩) 1 1) [(1, 2, 25)] := by
  refine ⟨_, 1, rfl, (fun e => by cases e), (by decide), inp_1, fun j hj => ⟨g, 0, rfl, ?_⟩⟩
  obtain rfl : j = 0 := by simpa using hj
  exact ⟨h.cell _, h.cell _, h.cell _⟩
theorem ckr_2 {w : World} {g : Nat} {T : TypeId} (h : Blk w g #[.int .i64 1, .int .i64 3, .int .i64 (-66), .int .i64 2, .int .i64 3, .int .i64 66] T) : ReadsP w (.slice (some ⟨g, 0, none⟩) 2 2) [(1, 3, -66), (2, 3, 66)] := by
  refine ⟨_, 2, rfl, (fun e => by cases e), (by decide), inp_2, fun j hj => ⟨g, 0, rfl, ?_⟩⟩
  rcases (show j = 0 ∨ j = 1 by have : j < 2 := hj; omega) with rfl | rfl
  · exact ⟨h.cell _, h.cell _, h.cell _⟩
  · exact ⟨h.cell _, h.cell _, h.cell _⟩
theorem ck_claims (g : Nat) (w : World) (hr : ReadsF w (.slice (some ⟨g, 0, none⟩) 1 1) [ck1]) : Calls Try.prog 10 #[.agg #[.int .i64 3, .int .i64 2500, .int .i64 2, .int .i64 3], .slice (some ⟨g, 0, none⟩) 1 1] w fun e w' => ∃ dv pv, e = .returned (.tuple #[dv, pv, .int .i64 0]) ∧ ReadsP w' dv [(1, 2, 25)] ∧ ReadsP w' pv [(1, 3, -66), (2, 3, 66)] ∧ Kpt w w' := by
  refine (claims_ok 3 2500 2 3 (some ⟨g, 0, none⟩) 1 [ck1] w hr ck_cw).mono ?_
  rintro e w' ⟨dv, pv, rfl, hd, hp, hk⟩
  rw [ck_hit, ck_d] at hd
  rw [ck_hit, ck_p] at hp
  exact ⟨dv, pv, rfl, hd.reads inp_1, hp.reads inp_2, hk⟩
theorem ck_grow (g : Nat) (w : World) (hr : ReadsF w (.slice (some ⟨g, 0, none⟩) 1 1) [ck1]) : Calls Try.prog 11 #[.agg #[.int .i64 3, .int .i64 2500, .int .i64 2, .int .i64 3], .slice (some ⟨g, 0, none⟩) 1 1] w fun e w' => ∃ b cap, e = .returned (.tuple #[.slice (some ⟨b, 0, none⟩) 1 cap, .int .i64 0]) ∧ w'.cell? ⟨b, 6, none⟩ = some (.int .i64 166) ∧ Kpt w w' := by
  refine (grow_ok 3 2500 2 3 (some ⟨g, 0, none⟩) 1 [ck1] w hr (fun e => by cases e) ck_cw).mono ?_
  rintro e w' ⟨hk, ⟨gv, rfl, ho, -⟩ | ⟨rfl, pre, x, hp, hx⟩⟩
  · rw [ck_hit, ck_g] at ho
    obtain ⟨a, cap, rfl, -, hc⟩ := ho.cells
    obtain ⟨b, rfl, hc'⟩ := hc 0 (by decide)
    exact ⟨b, cap, rfl, hc' 6 (by decide), hk⟩
  · exfalso
    rw [ck_hit] at hp
    have hl := hp.length_le
    simp only [List.length_append, List.length_cons, List.length_nil] at hl
    obtain rfl : pre = [] := List.eq_nil_of_length_eq_zero (by omega)
    rw [List.nil_append] at hp hx
    have hx0 := (List.cons_prefix_cons.1 hp).1
    subst hx0
    rw [show unL (gro 2 3 [ck1] [(⟨0, by decide⟩ : Fin [ck1].length)]) (⟨0, by decide⟩ : Fin [ck1].length).1 = 166 from ck_u] at hx
    omega
theorem ck_c1 : hoE 3 2500 2 3 100 = 0 ∧ hoC 2500 100 = 25 ∧ hoN 2 3 100 = 66 ∧ hoR 2 3 100 = 2 ∧ hoE 3 2500 2 3 (-1) = 3 ∧ evE 1 0 0 0 = 1 := by decide +kernel

set_option maxRecDepth 100000 in
set_option maxHeartbeats 8000000 in
theorem claimBegun (w : World) : Calls Try.prog 17 #[] w fun e w' => e = .returned (.bool true) ∧ Kpt w w' := by
  obtain ⟨c1, c2, c3, c4, c5, c6⟩ := ck_c1
  have A1 := Lib.hid (fun w' => cash_any 3 2500 2 3 100 w')
  rw [c1, if_pos rfl, c2] at A1
  have A2 := Lib.hid (fun w' => cash_any 3 2500 2 3 (-1) w')
  rw [c5, if_neg (by decide)] at A2
  have F1 := Lib.hid (fun w' => fresh_any 3 2500 2 3 100 w')
  rw [c1, if_pos rfl, if_pos rfl, c3, c4] at F1
  have V1 := Lib.hid (fun w' => ev_run 1 0 0 0 w')
  rw [c6] at V1
  clear c1 c2 c3 c4 c5 c6
  have K0 : Hid (Kpt w w) := Kpt.refl w
  go_enter Try.func17, Try.ntmps17
  go_wp2_with (first
    | (go_at_call 38; (with_reducible refine (split_run _).mono ?_); rintro e w1 ⟨rfl, k1⟩; have K0 := Lib.hid (ktr K0.out k1); (try have DR := Lib.hid (DR.out.kpt k1)); (try have PR := Lib.hid (PR.out.kpt k1)); (try have h6 := Kpt.cell k1 h6); clear k1)
    | (go_at_call 8; (with_reducible refine (A1.out _).mono ?_); rintro e w2 ⟨rfl, k1⟩; have K0 := Lib.hid (ktr K0.out k1); clear k1 A1)
    | (go_at_call 8; (with_reducible refine (A2.out _).mono ?_); rintro e w2 ⟨rfl, k1⟩; have K0 := Lib.hid (ktr K0.out k1); have DR := Lib.hid (DR.out.kpt k1); have PR := Lib.hid (PR.out.kpt k1); have h6 := Kpt.cell k1 h6; clear k1 A2)
    | (go_at_call 9; (with_reducible refine (F1.out _).mono ?_); rintro e w3 ⟨rfl, k1⟩; have K0 := Lib.hid (ktr K0.out k1); clear k1 F1)
    | (go_at_call 39; (with_reducible refine (some_run _).mono ?_); rintro e w4 ⟨rfl, k1⟩; have K0 := Lib.hid ((ktr K0.out k1).alloc (.cells #[.int .i64 7, .int .i64 1, .int .i64 2, .int .i64 0, .int .i64 3, .int .i64 739935, .int .i64 100, .int .i64 0, .int .i64 0, .int .i64 0] 49)); have FR := Lib.hid (rf_ck w4); (try have DR := Lib.hid ((DR.out.kpt k1).kpt ((Kpt.refl _).alloc (.cells #[.int .i64 7, .int .i64 1, .int .i64 2, .int .i64 0, .int .i64 3, .int .i64 739935, .int .i64 100, .int .i64 0, .int .i64 0, .int .i64 0] 49)))); (try have PR := Lib.hid ((PR.out.kpt k1).kpt ((Kpt.refl _).alloc (.cells #[.int .i64 7, .int .i64 1, .int .i64 2, .int .i64 0, .int .i64 3, .int .i64 739935, .int .i64 100, .int .i64 0, .int .i64 0, .int .i64 0] 49)))); clear k1)
    | (go_at_call 10; (with_reducible refine (ck_claims _ _ FR.out).mono ?_); rintro e w5 ⟨dv, pv, rfl, hd, hp, k1⟩; have K0 := Lib.hid (ktr K0.out k1); have DR := Lib.hid hd; have PR := Lib.hid hp; clear k1 hd hp FR)
    | (go_at_call 11; (with_reducible refine (ck_grow _ _ FR.out).mono ?_); rintro e w6 ⟨b, cp, rfl, h6, k1⟩; have K0 := Lib.hid (ktr K0.out k1); have DR := Lib.hid (DR.out.kpt k1); have PR := Lib.hid (PR.out.kpt k1); clear k1 FR)
    | (go_at_call 20; (with_reducible refine (sameD_any _ _ _ _ (DR.out.kpt ((Kpt.refl _).alloc _)) (ckr_1 (Blk.made _ _ _))).mono ?_); rintro e w7 ⟨rfl, k1⟩; have K0 := Lib.hid (ktr (K0.out.alloc _) k1); have PR := Lib.hid ((PR.out.kpt ((Kpt.refl _).alloc _)).kpt k1); have h6 := Kpt.cell k1 (((Kpt.refl _).alloc _).cell h6); clear k1 DR)
    | (go_at_call 21; (with_reducible refine (sameP_any _ _ _ _ (PR.out.kpt ((Kpt.refl _).alloc _)) (ckr_2 (Blk.made _ _ _))).mono ?_); rintro e w8 ⟨rfl, k1⟩; have K0 := Lib.hid (ktr (K0.out.alloc _) k1); have h6 := Kpt.cell k1 (((Kpt.refl _).alloc _).cell h6); clear k1 PR)
    | (go_at_call 18; (with_reducible refine (V1.out _).mono ?_); rintro e w9 ⟨rfl, k1⟩; have K0 := Lib.hid (ktr K0.out k1); clear k1))
  go_ret
  exact ⟨rfl, K0.out⟩

end Go.Proofs.Ytklaojahocjeiaa

-- IdsOk
namespace Go.Proofs.Ytklaojahocjeiaa
open Go.RowKit
set_option linter.unusedVariables false

theorem ids_ok {ids : List Int} {fs : List (List Int)} : idsE ids fs = 0 ↔ (∀ l ∈ fs, failEL l = 0) ∧ (idsOf fs).Nodup ∧ ∀ l ∈ fs, l.getD 0 0 ∉ ids := by
  induction fs generalizing ids with
  | nil => simp [idsE, idsOf]
  | cons l fs ih =>
    unfold idsE
    have e : idsOf (l :: fs) = l.getD 0 0 :: idsOf fs := rfl
    rw [e, List.nodup_cons]
    by_cases h1 : failEL l ≠ 0
    · rw [if_pos h1]
      constructor
      · exact fun h => absurd h h1
      · exact fun h => absurd (h.1 l (by simp)) h1
    · rw [if_neg h1]
      have h1 : failEL l = 0 := by omega
      by_cases h2 : l.getD 0 0 ∈ ids
      · rw [if_pos h2]
        constructor
        · intro h; omega
        · exact fun h => absurd h2 (h.2.2 l (by simp))
      · rw [if_neg h2, ih]
        constructor
        · rintro ⟨a, b, c⟩
          refine ⟨fun m hm => ?_, ⟨fun hm => ?_, b⟩, fun m hm => ?_⟩
          · rcases List.mem_cons.1 hm with rfl | hm
            · exact h1
            · exact a m hm
          · obtain ⟨m, hm, e⟩ := List.mem_map.1 hm
            exact c m hm (by rw [e]; simp)
          · rcases List.mem_cons.1 hm with rfl | hm
            · exact h2
            · exact fun h => c m hm (List.mem_append_left _ h)
        · rintro ⟨a, ⟨b1, b2⟩, c⟩
          refine ⟨fun m hm => a m (by simp [hm]), b2, fun m hm h => ?_⟩
          rcases List.mem_append.1 h with h | h
          · exact c m (by simp [hm]) h
          · exact b1 (List.mem_map.2 ⟨m, hm, by simpa using h⟩)
theorem checks_sub {fs gs : List (List Int)} (s : gs.Sublist fs) (h : checksE fs = 0) : checksE gs = 0 := by
  have hl := s.length_le
  unfold checksE at h ⊢
  split at h
  · cases h
  · rename_i h6
    rw [if_neg (by omega)]
    obtain ⟨h1, h2, h3⟩ := ids_ok.1 h
    exact ids_ok.2 ⟨fun l hl => h1 l (s.subset hl), (s.map fun l : List Int => l.getD 0 0).nodup (show (fs.map fun l => l.getD 0 0).Nodup from h2), fun l hl => h3 l (s.subset hl)⟩
theorem checks_one {l : List Int} (h : failEL l = 0) : checksE [l] = 0 := by
  unfold checksE
  rw [if_neg (by simp)]
  exact ids_ok.2 ⟨fun m hm => by simp at hm; subst hm; exact h, by simp [idsOf], fun m hm => by simp⟩
/-- those ahead of a place, and those from it on -/
theorem ReadsF.take {w : World} {a : Option Addr} {n cap : Nat} {fs : List (List Int)} (h : ReadsF w (.slice a n cap) fs) (k : Nat) (hk : k ≤ fs.length) : ReadsF w (.slice a k cap) (fs.take k) := by
  obtain ⟨a', cap', e, hm, hb, hc⟩ := h
  injection e with e1 e2 e3
  subst e1; subst e3
  have hl : (fs.take k).length = k := by rw [List.length_take]; omega
  refine ⟨_, cap, by rw [hl], by omega, fun p hp => hb p (List.mem_of_mem_take hp), fun j hj => ?_⟩
  obtain ⟨b, off, e, h⟩ := hc j (by omega)
  refine ⟨b, off, e, ?_⟩
  have : (fs.take k).getD j [] = fs.getD j [] := by
    rw [List.getD_eq_getElem?_getD, List.getD_eq_getElem?_getD, List.getElem?_take_of_lt (by omega)]
  rw [this]
  exact h
theorem ReadsF.drop {w : World} {b off n cap : Nat} {fs : List (List Int)} (h : ReadsF w (.slice (some ⟨b, off, none⟩) n cap) fs) (k : Nat) (hk : k ≤ fs.length) : ReadsF w (.slice (some ⟨b, off + k * 10, none⟩) (n - k) (cap - k)) (fs.drop k) := by
  obtain ⟨a', cap', e, hm, hb, hc⟩ := h
  injection e with e1 e2 e3
  subst e1; subst e3; subst e2
  have hl : (fs.drop k).length = fs.length - k := List.length_drop
  refine ⟨_, cap - k, by rw [hl], by omega, fun p hp => hb p (List.mem_of_mem_drop hp), fun j hj => ?_⟩
  obtain ⟨b', off', e, h⟩ := hc (k + j) (by omega)
  simp only [Option.some.injEq, Addr.mk.injEq] at e
  obtain ⟨rfl, rfl, -⟩ := e
  refine ⟨b, off + k * 10, rfl, ?_⟩
  have : (fs.drop k).getD j [] = fs.getD (k + j) [] := by
    rw [List.getD_eq_getElem?_getD, List.getD_eq_getElem?_getD, List.getElem?_drop]
  rw [this, show off + k * 10 + j * 10 = off + (k + j) * 10 by omega]
  exact h
theorem readsF_nil (w : World) (a : Option Addr) (cap : Nat) : ReadsF w (.slice a 0 cap) [] := ⟨a, cap, rfl, Nat.zero_le _, fun l hl => absurd hl (by simp), fun k hk => absurd hk (Nat.not_lt_zero k)⟩

end Go.Proofs.Ytklaojahocjeiaa

-- ClmM
namespace Go.Proofs.Ytklaojahocjeiaa
open Go.RowKit
set_option linter.unusedVariables false

theorem checks_all {fs : List (List Int)} (h : checksE fs = 0) : fs.length ≤ 60 ∧ ∀ l ∈ fs, failEL l = 0 := by
  unfold checksE at h
  split at h
  · cases h
  · exact ⟨by omega, (ids_ok.1 h).1⟩
theorem unit_bd {l : List Int} (h : failEL l = 0) : 1 ≤ l.getD 6 0 ∧ l.getD 6 0 ≤ 1073741824 := (fdue_t (fail_0 h).1).2.2.2.2.2
theorem dues_none (fs : List (List Int)) (xs : List (Fin fs.length)) : duesOf 0 fs xs = [] := by
  unfold duesOf
  refine List.flatMap_eq_nil_iff.2 fun x _ => ?_
  unfold dueL hoC
  rw [Int.mul_zero]; simp
theorem hoN_0 (O U : Int) : hoN 0 O U = 0 := by
  unfold hoN
  split
  · rfl
  · rw [Int.mul_zero, Int.zero_ediv]
theorem psts_none (P O : Int) (fs : List (List Int)) (xs : List (Fin fs.length)) : pstsOf P 0 O fs xs = [] := by
  unfold pstsOf
  refine List.flatMap_eq_nil_iff.2 fun x _ => ?_
  unfold pstL
  rw [hoN_0]; simp
theorem hit_none {P : Int} {fs : List (List Int)} (h : ∀ j, j < fs.length → (fs.getD j []).getD 4 0 ≠ P) : hit P fs fs.length = [] := by
  unfold hit
  refine List.filter_eq_nil_iff.2 fun x _ => ?_
  have := h x.1 x.2
  unfold hitB
  rw [decide_eq_false this]; simp
theorem set_getF (c : List (List Int)) (k j : Nat) (hk : k < c.length) (v : List Int) : (c.set k v).getD j [] = if j = k then v else c.getD j [] := by
  rw [List.getD_eq_getElem?_getD, List.getElem?_set, List.getD_eq_getElem?_getD]
  by_cases h : k = j
  · subst h; simp [hk]
  · rw [if_neg h, if_neg (Ne.symm h)]
theorem snoc_ind {α : Type} {p : List α → Prop} (h0 : p []) (hs : ∀ xs x, p xs → p (xs ++ [x])) (xs : List α) : p xs := by
  have : ∀ ys : List α, p ys.reverse := fun ys => by
    induction ys with
    | nil => exact h0
    | cons y ys ih => rw [List.reverse_cons]; exact hs _ _ ih
  have := this xs.reverse
  rwa [List.reverse_reverse] at this
/-- a cell that is no units stays -/
theorem gro_rest (G O : Int) (fs : List (List Int)) (xs : List (Fin fs.length)) (k j : Nat) (hj : j < 10) (h6 : j ≠ 6) : ((gro G O fs xs).getD k []).getD j 0 = (fs.getD k []).getD j 0 := by
  refine snoc_ind (p := fun xs => ∀ k, ((gro G O fs xs).getD k []).getD j 0 = (fs.getD k []).getD j 0) (fun k => rfl) (fun xs x ih k => ?_) xs k
  rw [gro_s]
  unfold gst
  rw [set_getF _ _ _ (by rw [gro_len]; exact x.2)]
  split
  · next e => subst e; rw [upd_at _ _ hj, if_neg h6]; exact ih x.1
  · exact ih k
theorem unL_set (c : List (List Int)) (k j : Nat) (hk : k < c.length) (v : List Int) : unL (c.set k v) j = if j = k then v.getD 6 0 else unL c j := by
  unfold unL
  rw [set_getF _ _ _ hk]
  split <;> rfl
/-- the units of a place: what was there, and what is new, once -/
theorem gro_unit (G O : Int) (fs : List (List Int)) (xs : List (Fin fs.length)) (hn : xs.Nodup) (k : Fin fs.length) : unL (gro G O fs xs) k.1 = if k ∈ xs then IntKind.i64.wrap (unL fs k.1 + hoN G O (openL (fs.getD k.1 []))) else unL fs k.1 := by
  refine snoc_ind (p := fun xs => xs.Nodup → ∀ k : Fin fs.length, unL (gro G O fs xs) k.1 = if k ∈ xs then IntKind.i64.wrap (unL fs k.1 + hoN G O (openL (fs.getD k.1 []))) else unL fs k.1) (fun _ k => by simp [gro]) (fun xs x ih hd k => ?_) xs hn k
  obtain ⟨h1, -, h3⟩ := List.nodup_append.1 hd
  have hx : x ∉ xs := fun h => h3 x h x (by simp) rfl
  rw [gro_s]
  unfold gst
  rw [unL_set _ _ _ (by rw [gro_len]; exact x.2), upd_at _ _ (by decide), if_pos rfl]
  by_cases hk : k = x
  · subst hk
    rw [if_pos rfl, if_pos (by simp), ih h1 k, if_neg hx]
  · rw [if_neg (fun e => hk (Fin.ext e)), ih h1 k]
    by_cases hm : k ∈ xs
    · rw [if_pos hm, if_pos (by simp [hm])]
    · rw [if_neg hm, if_neg (by simp [hm, hk])]
theorem hit_nodup (P : Int) (fs : List (List Int)) (k : Nat) : (hit P fs k).Nodup := by
  unfold hit
  exact List.Nodup.sublist (List.filter_sublist.trans (List.take_sublist _ _)) (List.nodup_finRange _)
theorem hit_mem {P : Int} {fs : List (List Int)} {x : Fin fs.length} : x ∈ hit P fs fs.length ↔ hitB P (fs.getD x.1 []) = true := by
  unfold hit
  rw [List.take_of_length_le (by simp), List.mem_filter]
  simp
/-- where no papers come nothing grows -/
theorem gro_still {G O : Int} (hG : G = 0) {fs : List (List Int)} (hb : ∀ l ∈ fs, failEL l = 0) (xs : List (Fin fs.length)) (hn : xs.Nodup) (k j : Nat) (hk : k < fs.length) (hj : j < 10) : ((gro G O fs xs).getD k []).getD j 0 = (fs.getD k []).getD j 0 := by
  by_cases h6 : j = 6
  · subst h6 hG
    have := gro_unit 0 O fs xs hn ⟨k, hk⟩
    unfold unL at this
    rw [this]
    split
    · rw [hoN_0, Int.add_zero]
      have := unit_bd (hb _ (getF_mem hk))
      show IntKind.i64.wrap ((fs.getD k []).getD 6 0) = (fs.getD k []).getD 6 0
      exact IntWalk.i64_in _ (by omega)
    · rfl
  · exact gro_rest G O fs xs k j hj h6
/-- a slice of the call's own that holds what another list holds reads as that one -/
theorem OwnsN.readsG {w : World} {B : Nat} {v : Value} {fs gs : List (List Int)} (h : OwnsN 10 49 w B v gs) (hl : gs.length = fs.length) (hb : ∀ l ∈ fs, FlB l) (he : ∀ k j, k < fs.length → j < 10 → (gs.getD k []).getD j 0 = (fs.getD k []).getD j 0) : ReadsF w v fs := by
  obtain ⟨a, cap, rfl, hm, hc⟩ := h.cells
  rw [hl] at hm
  refine ⟨a, cap, by rw [hl], hm, hb, fun k hk => ?_⟩
  obtain ⟨g, rfl, hc'⟩ := hc k (by omega)
  exact ⟨g, 0, rfl, fun j hj => by rw [Nat.zero_add, hc' j hj, he k j hk hj]⟩
theorem pre_nil {α : Type} {pre : List α} {x : α} (h : pre ++ [x] <+: []) : False := by
  have := h.length_le
  simp at this

end Go.Proofs.Ytklaojahocjeiaa

-- SameF
namespace Go.Proofs.Ytklaojahocjeiaa
open Go.RowKit
set_option linter.unusedVariables false

theorem neqF (i f t c p d u x b y : Int) (w : World) : (binOp .neq 49 (.agg #[.int .i64 i, .int .i64 f, .int .i64 t, .int .i64 c, .int .i64 p, .int .i64 d, .int .i64 u, .int .i64 x, .int .i64 b, .int .i64 y]) (.agg #[.int .i64 i, .int .i64 f, .int .i64 t, .int .i64 c, .int .i64 p, .int .i64 d, .int .i64 u, .int .i64 x, .int .i64 b, .int .i64 y])).run Try.prog w = .ok (.bool false) w := by
  have u3 := Try.underlying3
  have hS : Try.prog.underlying 49 = some (.struct (Try.prog.fieldsOf 49)) := by kernel_rfl
  have hp : Try.prog.stoodInHeld 49 = false := by kernel_rfl
  have a3 : ∀ w, (isAgg 3).run Try.prog w = .ok false w := fun w => by kernel_rfl
  have h : ∀ w, (Op.equalIn (9999 + 1) 49 (.agg #[.int .i64 i, .int .i64 f, .int .i64 t, .int .i64 c, .int .i64 p, .int .i64 d, .int .i64 u, .int .i64 x, .int .i64 b, .int .i64 y]) (.agg #[.int .i64 i, .int .i64 f, .int .i64 t, .int .i64 c, .int .i64 p, .int .i64 d, .int .i64 u, .int .i64 x, .int .i64 b, .int .i64 y])).run Try.prog w = .ok true w := fun w => by
    rw [run_equalIn_agg w 9999 49 _ _ hS hp]
    simp only [Program.fieldsOf, Try.underlying49]
    go_simp
  simp only [binOp, Op.equal, Op.maxDepth, Sem.run_bind]
  rw [show (10000 : Nat) = 9999 + 1 from rfl, h]
  simp

theorem sameF_none (a1 a2 : Option Addr) (c1 c2 : Nat) (w : World) : Calls Try.prog 22 #[.slice a1 0 c1, .slice a2 0 c2] w fun e w' => e = .returned (.bool true) ∧ Kpt w w' := by
  go_enter Try.func22, Try.ntmps22
  go_wp2
  go_loop [5] (fun i => i = .int .i64 0) (fun _ => 0)
  case atStart => exact rfl
  case round =>
    obtain rfl := hrel
    go_wp2
    go_ret
    exact ⟨rfl, Kpt.refl _⟩

set_option maxHeartbeats 2000000 in
theorem sameF_some (b1 o1 c1 b2 o2 c2 : Nat) (fs : List (List Int)) (w : World) (hm : fs.length ≤ maxLen) (h1 : ∀ k, k < fs.length → FlAt w b1 (o1 + k * 10) (fs.getD k [])) (h2 : ∀ k, k < fs.length → FlAt w b2 (o2 + k * 10) (fs.getD k [])) :
    Calls Try.prog 22 #[.slice (some ⟨b1, o1, none⟩) fs.length c1, .slice (some ⟨b2, o2, none⟩) fs.length c2] w fun e w' => e = .returned (.bool true) ∧ Kpt w w' := by
  unfold maxLen at hm
  have H1 := Lib.hid h1; have H2 := Lib.hid h2
  clear h1 h2
  go_enter Try.func22, Try.ntmps22
  go_wp2
  go_loopw [5] (fun i wr => ∃ k : Nat, k ≤ fs.length ∧ i = .int .i64 k ∧ Hid (Kpt w wr)) (fun i _ => fs.length - (intOf i).toNat)
  case atStart => exact ⟨0, Nat.zero_le _, rfl, Kpt.refl _⟩
  case round =>
    obtain ⟨k, hk, rfl, HK⟩ := hrel
    by_cases hlt : k < fs.length
    · have hc := (H1.out k hlt).kpt HK.out
      have hd := (H2.out k hlt).kpt HK.out
      have c0 : wr.cell? ⟨b1, o1 + k * 10, none⟩ = _ := hc 0 (by omega)
      have c1 : wr.cell? ⟨b1, o1 + k * 10 + 1, none⟩ = _ := hc 1 (by omega)
      have c2 : wr.cell? ⟨b1, o1 + k * 10 + 2, none⟩ = _ := hc 2 (by omega)
      have c3 : wr.cell? ⟨b1, o1 + k * 10 + 3, none⟩ = _ := hc 3 (by omega)
      have c4 : wr.cell? ⟨b1, o1 + k * 10 + 4, none⟩ = _ := hc 4 (by omega)
      have c5 : wr.cell? ⟨b1, o1 + k * 10 + 5, none⟩ = _ := hc 5 (by omega)
      have c6 : wr.cell? ⟨b1, o1 + k * 10 + 6, none⟩ = _ := hc 6 (by omega)
      have c7 : wr.cell? ⟨b1, o1 + k * 10 + 7, none⟩ = _ := hc 7 (by omega)
      have c8 : wr.cell? ⟨b1, o1 + k * 10 + 8, none⟩ = _ := hc 8 (by omega)
      have c9 : wr.cell? ⟨b1, o1 + k * 10 + 9, none⟩ = _ := hc 9 (by omega)
      have d0 : wr.cell? ⟨b2, o2 + k * 10, none⟩ = _ := hd 0 (by omega)
      have d1 : wr.cell? ⟨b2, o2 + k * 10 + 1, none⟩ = _ := hd 1 (by omega)
      have d2 : wr.cell? ⟨b2, o2 + k * 10 + 2, none⟩ = _ := hd 2 (by omega)
      have d3 : wr.cell? ⟨b2, o2 + k * 10 + 3, none⟩ = _ := hd 3 (by omega)
      have d4 : wr.cell? ⟨b2, o2 + k * 10 + 4, none⟩ = _ := hd 4 (by omega)
      have d5 : wr.cell? ⟨b2, o2 + k * 10 + 5, none⟩ = _ := hd 5 (by omega)
      have d6 : wr.cell? ⟨b2, o2 + k * 10 + 6, none⟩ = _ := hd 6 (by omega)
      have d7 : wr.cell? ⟨b2, o2 + k * 10 + 7, none⟩ = _ := hd 7 (by omega)
      have d8 : wr.cell? ⟨b2, o2 + k * 10 + 8, none⟩ = _ := hd 8 (by omega)
      have d9 : wr.cell? ⟨b2, o2 + k * 10 + 9, none⟩ = _ := hd 9 (by omega)
      clear hc hd
      generalize (fs.getD k []).getD 0 0 = i at *
      generalize (fs.getD k []).getD 1 0 = f at *
      generalize (fs.getD k []).getD 2 0 = t at *
      generalize (fs.getD k []).getD 3 0 = c at *
      generalize (fs.getD k []).getD 4 0 = p at *
      generalize (fs.getD k []).getD 5 0 = d at *
      generalize (fs.getD k []).getD 6 0 = u at *
      generalize (fs.getD k []).getD 7 0 = x at *
      generalize (fs.getD k []).getD 8 0 = b at *
      generalize (fs.getD k []).getD 9 0 = y at *
      have qn := neqF i f t c p d u x b y
      have b0 : (0 : Int) ≤ (k : Int) := by omega
      have b1 : (k : Int) < (fs.length : Int) := by omega
      go_wp2
      go_quiet (fail)
      go_wp2
      go_roundw
      case rel => exact ⟨k + 1, by omega, by go_num, Kpt.drewN HK.out _⟩
      case measure => simp [intOf]; omega
    · go_wp2
      go_ret
      exact ⟨rfl, HK.out⟩

theorem ReadsF.cell {w : World} {v : Value} {fs : List (List Int)} (h : ReadsF w v fs) : (fs = [] ∧ ∃ a cap, v = .slice a 0 cap) ∨ (0 < fs.length ∧ ∃ b off cap, v = .slice (some ⟨b, off, none⟩) fs.length cap ∧ ∀ k, k < fs.length → FlAt w b (off + k * 10) (fs.getD k [])) := by
  obtain ⟨a, cap, rfl, hm, hb, hc⟩ := h
  by_cases h0 : fs = []
  · subst h0; exact .inl ⟨rfl, a, cap, rfl⟩
  · have hp : 0 < fs.length := by cases fs <;> simp at h0 ⊢
    obtain ⟨b, off, rfl, -⟩ := hc 0 hp
    refine .inr ⟨hp, b, off, cap, rfl, fun j hj => ?_⟩
    obtain ⟨b', off', e, h'⟩ := hc j hj
    simp only [Option.some.injEq, Addr.mk.injEq] at e
    obtain ⟨rfl, rfl, -⟩ := e
    exact h'
theorem sameF_any (v u : Value) (fs : List (List Int)) (w : World) (h1 : ReadsF w v fs) (h2 : ReadsF w u fs) : Calls Try.prog 22 #[v, u] w fun e w' => e = .returned (.bool true) ∧ Kpt w w' := by
  have hm : fs.length ≤ maxLen := by obtain ⟨a, cap, rfl, hm, -⟩ := h1; exact hm
  rcases h1.cell with ⟨rfl, a, c, rfl⟩ | ⟨h0, b1, o1, c1, rfl, k1⟩
  · rcases h2.cell with ⟨_, a', c', rfl⟩ | ⟨h0, _⟩
    · exact sameF_none a a' c c' w
    · simp at h0
  · rcases h2.cell with ⟨e, _⟩ | ⟨_, b2, o2, c2, rfl, k2⟩
    · rw [e] at h0; simp at h0
    · exact sameF_some b1 o1 c1 b2 o2 c2 fs w hm k1 k2

end Go.Proofs.Ytklaojahocjeiaa
