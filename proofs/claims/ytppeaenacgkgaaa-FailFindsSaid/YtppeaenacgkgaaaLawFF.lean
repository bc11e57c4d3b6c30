/-
  Fails: each is found by its number, in whatever order they stand.
-/
import Derived.Test.YtppeaenacgkgaaaFlOwn
import Derived.Test.YtppeaenacgkgaaaFailG
namespace Go.Proofs.Ytppeaenacgkgaaa
open Go.RowKit
set_option linter.unusedVariables false

theorem ids_ok {ids : List Int} {fs : List (List Int)} : idsE ids fs = 0 ↔ (∀ l ∈ fs, failEL l = 0) ∧ (idsOf fs).Nodup ∧ ∀ l ∈ fs, l.getD 0 0 ∉ ids := by
  induction fs generalizing ids with
  | nil => simp [idsE, idsOf]
  | cons l fs ih =>
    unfold idsE
    have e : idsOf (l :: fs) = l.getD 0 0 :: idsOf fs := rfl
    rw [e, List.nodup_cons]
    by_cases h1 : failEL l ≠ 0
    · rw [if_pos h1]
      constructor
      · exact fun h => absurd h h1
      · exact fun h => absurd (h.1 l (by simp)) h1
    · rw [if_neg h1]
      have h1 : failEL l = 0 := by omega
      by_cases h2 : l.getD 0 0 ∈ ids
      · rw [if_pos h2]
        constructor
        · intro h; omega
        · exact fun h => absurd h2 (h.2.2 l (by simp))
      · rw [if_neg h2, ih]
        constructor
        · rintro ⟨a, b, c⟩
          refine ⟨fun m hm => ?_, ⟨fun hm => ?_, b⟩, fun m hm => ?_⟩
          · rcases List.mem_cons.1 hm with rfl | hm
            · exact h1
            · exact a m hm
          · obtain ⟨m, hm, e⟩ := List.mem_map.1 hm
            exact c m hm (by rw [e]; simp)
          · rcases List.mem_cons.1 hm with rfl | hm
            · exact h2
            · exact fun h => c m hm (List.mem_append_left _ h)
        · rintro ⟨a, ⟨b1, b2⟩, c⟩
          refine ⟨fun m hm => a m (by simp [hm]), b2, fun m hm h => ?_⟩
          rcases List.mem_append.1 h with h | h
          · exact c m (by simp [hm]) h
          · exact b1 (List.mem_map.2 ⟨m, hm, by simpa using h⟩)
theorem idx_at {id : Int} (fs : List (List Int)) (k i : Nat) (hi : i < fs.length) (h : (fs.getD i []).getD 0 0 = id) (hn : ∀ j, j < i → (fs.getD j []).getD 0 0 ≠ id) : idxF id fs k = ((k + i : Nat) : Int) := by
  induction fs generalizing k i with
  | nil => simp at hi
  | cons l fs ih =>
    unfold idxF
    cases i with
    | zero => rw [if_pos (by simpa using h)]; rfl
    | succ i =>
      rw [if_neg (by simpa using hn 0 (by omega))]
      rw [ih (k + 1) i (by simpa using hi) (by simpa using h) (fun j hj => by simpa using hn (j + 1) (by omega))]
      congr 1; omega
theorem idsOf_at {fs : List (List Int)} {i : Nat} (h : i < fs.length) : (idsOf fs)[i]'(by simpa [idsOf] using h) = (fs.getD i []).getD 0 0 := by
  simp [idsOf, List.getElem?_eq_getElem h]
theorem ids_ne {fs : List (List Int)} (hn : (idsOf fs).Nodup) {i j : Nat} (hi : i < fs.length) (hj : j < fs.length) (h : i ≠ j) : (fs.getD i []).getD 0 0 ≠ (fs.getD j []).getD 0 0 := by
  rw [← idsOf_at hi, ← idsOf_at hj]
  have hp := List.pairwise_iff_getElem.1 hn
  have li : i < (idsOf fs).length := by simpa [idsOf] using hi
  have lj : j < (idsOf fs).length := by simpa [idsOf] using hj
  rcases Nat.lt_or_ge i j with g | g
  · exact hp i j li lj g
  · exact fun e => hp j i lj li (by omega) e.symm
theorem find_at {fs : List (List Int)} (h : checksE fs = 0) {i : Nat} (hi : i < fs.length) : idxF ((fs.getD i []).getD 0 0) fs 0 = (i : Int) := by
  unfold checksE at h
  split at h
  · omega
  · obtain ⟨_, hn, _⟩ := ids_ok.1 h
    rw [idx_at fs 0 i hi rfl (fun j hj => ids_ne hn (by omega) hi (by omega)), Nat.zero_add]
theorem checks_len {fs : List (List Int)} (h : checksE fs = 0) : fs.length ≤ 60 := by
  unfold checksE at h
  split at h
  · omega
  · omega
theorem checks_rev {fs : List (List Int)} (h : checksE fs = 0) : checksE fs.reverse = 0 := by
  have hl := checks_len h
  unfold checksE at h ⊢
  rw [if_neg (by omega)] at h
  rw [if_neg (by rw [List.length_reverse]; omega)]
  obtain ⟨a, b, _⟩ := ids_ok.1 h
  refine ids_ok.2 ⟨fun l hl => a l (List.mem_reverse.1 hl), ?_, fun _ _ h => by cases h⟩
  have : idsOf fs.reverse = (idsOf fs).reverse := by unfold idsOf; rw [List.map_reverse]
  rw [this]
  exact List.pairwise_reverse.2 (b.imp fun h e => h e.symm)
theorem rev_at {fs : List (List Int)} {i : Nat} (h : i < fs.length) : fs.reverse.getD (fs.length - 1 - i) [] = fs.getD i [] := by
  rw [List.getD_eq_getElem?_getD, List.getD_eq_getElem?_getD, List.getElem?_reverse (by omega), show fs.length - 1 - (fs.length - 1 - i) = i by omega]
theorem find_rev {fs : List (List Int)} (h : checksE fs = 0) {i : Nat} (hi : i < fs.length) : idxF ((fs.getD i []).getD 0 0) fs.reverse 0 = (fs.length : Int) - 1 - (i : Int) := by
  have := find_at (checks_rev h) (i := fs.length - 1 - i) (by rw [List.length_reverse]; omega)
  rw [rev_at hi] at this
  rw [this]; omega
theorem rev_s {fs : List (List Int)} {k : Nat} (h : k < fs.length) : (fs.drop k).reverse = (fs.drop (k + 1)).reverse ++ [fs.getD k []] := by
  rw [drop_at h, List.reverse_cons]

set_option maxRecDepth 100000 in
set_option maxHeartbeats 4000000 in
theorem ff_bad (v : Value) (fs : List (List Int)) (z : Int) (w : World) (hr : ReadsF w v fs) (h : checksE fs ≠ 0) :
    Calls Try.prog 4 #[v, .int .i64 z] w fun e w' => e = .returned (.bool true) ∧ Kpt w w' := by
  have CK := Lib.hid (fun w' (k : Kpt w w') => checks_run v fs w' (hr.kpt k))
  obtain ⟨a, cap, rfl, hm, -, -⟩ := hr
  unfold maxLen at hm
  generalize fs.length = n at *
  generalize checksE fs = E at *
  have z1 : (E != 0) = true := bne_iff_ne.2 h
  go_enter Try.func4, Try.ntmps4
  go_wp2_with (first
    | (go_at_call 17; (with_reducible refine (failBegun _).mono ?_); rintro e w1 ⟨rfl, k1⟩; have K1 := Lib.hid k1; clear k1)
    | (go_at_call 19; (with_reducible refine (CK.out _ K1.out).mono ?_); rintro e w2 ⟨rfl, k2⟩; have K2 := Lib.hid (ktr K1.out k2); clear k2))
  go_ret
  exact ⟨rfl, K2.out⟩

set_option maxRecDepth 100000 in
set_option maxHeartbeats 4000000 in
theorem ff_neg (v : Value) (fs : List (List Int)) (z : Int) (w : World) (hr : ReadsF w v fs) (h : checksE fs = 0) (hz : z < 0) :
    Calls Try.prog 4 #[v, .int .i64 z] w fun e w' => e = .returned (.bool true) ∧ Kpt w w' := by
  have CK := Lib.hid (fun w' (k : Kpt w w') => checks_run v fs w' (hr.kpt k))
  obtain ⟨a, cap, rfl, hm, -, -⟩ := hr
  unfold maxLen at hm
  generalize fs.length = n at *
  generalize checksE fs = E at *
  have z1 : (E != 0) = false := by rw [h]; rfl
  have z2 : decide (z < 0) = true := decide_eq_true hz
  clear h
  go_enter Try.func4, Try.ntmps4
  go_wp2_with (first
    | (go_at_call 17; (with_reducible refine (failBegun _).mono ?_); rintro e w1 ⟨rfl, k1⟩; have K1 := Lib.hid k1; clear k1)
    | (go_at_call 19; (with_reducible refine (CK.out _ K1.out).mono ?_); rintro e w2 ⟨rfl, k2⟩; have K2 := Lib.hid (ktr K1.out k2); clear k2))
  go_ret
  exact ⟨rfl, K2.out⟩

set_option maxRecDepth 100000 in
set_option maxHeartbeats 4000000 in
theorem ff_big (v : Value) (fs : List (List Int)) (z : Int) (w : World) (hr : ReadsF w v fs) (h : checksE fs = 0) (hz : ¬ z < 0) (hb : (fs.length : Int) ≤ z) :
    Calls Try.prog 4 #[v, .int .i64 z] w fun e w' => e = .returned (.bool true) ∧ Kpt w w' := by
  have CK := Lib.hid (fun w' (k : Kpt w w') => checks_run v fs w' (hr.kpt k))
  obtain ⟨a, cap, rfl, hm, -, -⟩ := hr
  unfold maxLen at hm
  generalize fs.length = n at *
  generalize checksE fs = E at *
  have z1 : (E != 0) = false := by rw [h]; rfl
  have z2 : decide (z < 0) = false := decide_eq_false hz
  have z3 : decide ((n : Int) ≤ z) = true := decide_eq_true hb
  clear h
  go_enter Try.func4, Try.ntmps4
  go_wp2_with (first
    | (go_at_call 17; (with_reducible refine (failBegun _).mono ?_); rintro e w1 ⟨rfl, k1⟩; have K1 := Lib.hid k1; clear k1)
    | (go_at_call 19; (with_reducible refine (CK.out _ K1.out).mono ?_); rintro e w2 ⟨rfl, k2⟩; have K2 := Lib.hid (ktr K1.out k2); clear k2))
  go_ret
  exact ⟨rfl, K2.out⟩

set_option maxRecDepth 100000 in
set_option maxHeartbeats 4000000 in
theorem ff_ok (v : Value) (fs : List (List Int)) (z : Int) (w : World) (hr : ReadsF w v fs) (h : checksE fs = 0) (hz : 0 ≤ z) (hb : z < (fs.length : Int)) :
    Calls Try.prog 4 #[v, .int .i64 z] w fun e w' => e = .returned (.bool true) ∧ Kpt w w' := by
  have CK := Lib.hid (fun w' (k : Kpt w w') => checks_run v fs w' (hr.kpt k))
  have CB := Lib.hid (fun v' w' B (ho : OwnsN 10 23 w' B v' fs.reverse) => checks_run v' fs.reverse w' (ho.readsF (by obtain ⟨_, _, _, _, hb, _⟩ := hr; exact fun l hl => hb l (List.mem_reverse.1 hl))))
  obtain ⟨i0, rfl⟩ : ∃ i0 : Nat, z = (i0 : Int) := ⟨z.toNat, by omega⟩
  have hi0 : i0 < fs.length := by omega
  have fa := find_at h hi0
  have fb := find_rev h hi0
  have FA := Lib.hid (fun w' (k : Kpt w w') => by have := (find_run v fs ((fs.getD i0 []).getD 0 0) w' (hr.kpt k)).2.2 h (by rw [fa]; omega); rw [fa] at this; exact this)
  have FZ := Lib.hid (fun v' w' B (ho : OwnsN 10 23 w' B v' fs.reverse) => by have := (find_run v' fs.reverse ((fs.getD i0 []).getD 0 0) w' (ho.readsF (by obtain ⟨_, _, _, _, hb, _⟩ := hr; exact fun l hl => hb l (List.mem_reverse.1 hl)))).2.2 (checks_rev h) (by rw [fb]; omega); rw [fb] at this; exact this)
  have cr := checks_rev h
  have hl := checks_len h
  obtain ⟨a, cap, rfl, hm, -, hc⟩ := hr
  have HC := Lib.hid hc
  have RS := Lib.hid (fun k (h : k < fs.length) => rev_s h)
  have DA : Hid ((fs.drop fs.length).reverse = []) := by unfold Hid; rw [List.drop_length]; rfl
  have D0 : Hid ((fs.drop 0).reverse = fs.reverse) := rfl
  have DL := Lib.hid (fun k => (show ((fs.drop k).reverse).length = fs.length - k by rw [List.length_reverse, List.length_drop]))
  clear hc fa fb hm
  obtain ⟨n, hn⟩ : ∃ n, n = fs.length := ⟨_, rfl⟩
  rw [← hn] at HC RS DA DL hl hi0 hb FA FZ CK ⊢
  have z1 : (checksE fs != 0) = false := by rw [h]; rfl
  have z2 : decide ((i0 : Int) < 0) = false := decide_eq_false (by omega)
  have z3 : decide ((n : Int) ≤ (i0 : Int)) = false := decide_eq_false (by omega)
  have z5 : decide (n ≤ i0) = false := decide_eq_false (by omega)
  rw [cr] at CB
  generalize checksE fs = E at *
  clear hn h cr
  obtain ⟨R, HR⟩ : ∃ R : Int, Hid (R = (n : Int) - 1 - (i0 : Int)) := ⟨_, rfl⟩
  rw [← HR.out] at FZ
  have z4 : (R == (n : Int) - 1 - (i0 : Int)) = true := by rw [HR.out]; simp
  go_enter Try.func4, Try.ntmps4
  go_wp2_with (first
    | (go_at_call 17; (with_reducible refine (failBegun _).mono ?_); rintro e w1 ⟨rfl, k1⟩; have K1 := Lib.hid k1; clear k1)
    | (go_at_call 19; (with_reducible refine (CK.out _ K1.out).mono ?_); rintro e w2 ⟨rfl, k2⟩; have K2 := Lib.hid (ktr K1.out k2); clear k2))
  have hE2 : w.heap.size ≤ w2.heap.size := K2.out.size
  go_loopw [5, 6] (fun bv ii wr => ∃ (q : Int) (m : Nat), ii = .int .i64 q ∧ Hid (q = (m : Int) - 1) ∧ m ≤ n ∧ Hid (OwnsN 10 23 wr w.heap.size bv ((fs.drop m).reverse)) ∧ Hid (Kpt w wr)) (fun _ ii _ => (intOf ii + 1).toNat)
  case atStart => exact ⟨_, n, rfl, rfl, Nat.le_refl _, by rw [DA.out]; exact OwnsN.nil _ _ _ _, K2.out⟩
  case round =>
    obtain ⟨q, m, rfl, HQ, hm, HO, HK⟩ := hrel
    by_cases hlt : 0 ≤ q
    · obtain ⟨k, rfl⟩ : ∃ k : Nat, q = (k : Int) := ⟨q.toNat, by omega⟩
      have hmk : m = k + 1 := by have := HQ.out; omega
      subst hmk
      clear HQ
      have y1 : (0 : Int) ≤ (k : Int) := by omega
      have y2 : decide ((0 : Int) ≤ (k : Int)) = true := decide_eq_true y1
      have hkn : k < n := by omega
      obtain ⟨g, off, rfl, hfl⟩ := HC.out k hkn
      have hf := hfl.kpt HK.out
      have rs := Lib.hid (RS.out k hkn)
      have dl := DL.out (k + 1)
      have c0 : wr.cell? ⟨g, off + k * 10, none⟩ = _ := hf 0 (by omega)
      have c1 : wr.cell? ⟨g, off + k * 10 + 1, none⟩ = _ := hf 1 (by omega)
      have c2 : wr.cell? ⟨g, off + k * 10 + 2, none⟩ = _ := hf 2 (by omega)
      have c3 : wr.cell? ⟨g, off + k * 10 + 3, none⟩ = _ := hf 3 (by omega)
      have c4 : wr.cell? ⟨g, off + k * 10 + 4, none⟩ = _ := hf 4 (by omega)
      have c5 : wr.cell? ⟨g, off + k * 10 + 5, none⟩ = _ := hf 5 (by omega)
      have c6 : wr.cell? ⟨g, off + k * 10 + 6, none⟩ = _ := hf 6 (by omega)
      have c7 : wr.cell? ⟨g, off + k * 10 + 7, none⟩ = _ := hf 7 (by omega)
      have c8 : wr.cell? ⟨g, off + k * 10 + 8, none⟩ = _ := hf 8 (by omega)
      have c9 : wr.cell? ⟨g, off + k * 10 + 9, none⟩ = _ := hf 9 (by omega)
      obtain ⟨i, e0⟩ : ∃ q, q = (fs.getD k []).getD 0 0 := ⟨_, rfl⟩
      obtain ⟨f, e1⟩ : ∃ q, q = (fs.getD k []).getD 1 0 := ⟨_, rfl⟩
      obtain ⟨t, e2⟩ : ∃ q, q = (fs.getD k []).getD 2 0 := ⟨_, rfl⟩
      obtain ⟨c, e3⟩ : ∃ q, q = (fs.getD k []).getD 3 0 := ⟨_, rfl⟩
      obtain ⟨p, e4⟩ : ∃ q, q = (fs.getD k []).getD 4 0 := ⟨_, rfl⟩
      obtain ⟨d, e5⟩ : ∃ q, q = (fs.getD k []).getD 5 0 := ⟨_, rfl⟩
      obtain ⟨u, e6⟩ : ∃ q, q = (fs.getD k []).getD 6 0 := ⟨_, rfl⟩
      obtain ⟨x, e7⟩ : ∃ q, q = (fs.getD k []).getD 7 0 := ⟨_, rfl⟩
      obtain ⟨b, e8⟩ : ∃ q, q = (fs.getD k []).getD 8 0 := ⟨_, rfl⟩
      obtain ⟨y, e9⟩ : ∃ q, q = (fs.getD k []).getD 9 0 := ⟨_, rfl⟩
      have HRW : Hid (rowN 10 (fs.getD k []) = [.int .i64 i, .int .i64 f, .int .i64 t, .int .i64 c, .int .i64 p, .int .i64 d, .int .i64 u, .int .i64 x, .int .i64 b, .int .i64 y]) := by unfold Hid; rw [e0, e1, e2, e3, e4, e5, e6, e7, e8, e9]; rfl
      rw [← e0] at c0; clear e0
      rw [← e1] at c1; clear e1
      rw [← e2] at c2; clear e2
      rw [← e3] at c3; clear e3
      rw [← e4] at c4; clear e4
      rw [← e5] at c5; clear e5
      rw [← e6] at c6; clear e6
      rw [← e7] at c7; clear e7
      rw [← e8] at c8; clear e8
      rw [← e9] at c9; clear e9
      have hsz : w.heap.size ≤ wr.heap.size := HK.out.size
      have KC : Hid (Kpt w (wr.alloc (.cells #[.int .i64 i, .int .i64 f, .int .i64 t, .int .i64 c, .int .i64 p, .int .i64 d, .int .i64 u, .int .i64 x, .int .i64 b, .int .i64 y] 23))) := HK.out.alloc _
      have HL : Hid (((fs.drop (k + 1)).reverse).length + 1 ≤ 100000) := by unfold Hid; rw [dl]; omega
      clear dl
      obtain ⟨ba, bn, bc, rfl, HBN⟩ := HO.out.form
      go_wp2_with (at_builtin; refine wp_appendFl rfl (.tmp 33) (.tmp 38) rfl w.heap.size _ _ (fs.getD k []) _ _ _ _ _ _ _ _ _ _ wr rfl HO.out rfl HRW.out HL.out hsz ?_; intro v3 w3 ho3 b3; have HO3 := Lib.hid ho3; have K3 : Hid (Kpt w w3) := Lib.hid (HK.out.trans b3); clear ho3 b3)
      case roundEnd =>
        refine ⟨⟨_, k, rfl, rfl, by omega, by rw [rs.out]; exact HO3.out, K3.out⟩, ?_⟩
        show ((k : Int) - 1 + 1).toNat < ((k : Int) + 1).toNat
        omega
    · obtain rfl : m = 0 := by have := HQ.out; omega
      have y1 : ¬ (0 : Int) ≤ q := hlt
      have y2 : decide ((0 : Int) ≤ q) = false := decide_eq_false hlt
      clear HQ
      rw [D0.out] at HO
      obtain ⟨g, off, rfl, hfl⟩ := HC.out i0 hi0
      have hf := hfl.kpt HK.out
      have c0 : wr.cell? ⟨g, off + i0 * 10, none⟩ = _ := hf 0 (by omega)
      generalize (fs.getD i0 []).getD 0 0 = id at *
      go_wp2_with (first
        | (go_at_call 11; (with_reducible refine (FA.out _ HK.out).mono ?_); rintro e w4 ⟨rfl, k4⟩; have K4 := Lib.hid (ktr HK.out k4); have HO4 := Lib.hid (HO.out.kpt k4); have c4 := k4.cell c0; clear k4)
        | (go_at_call 11; (with_reducible refine (FZ.out _ _ _ HO4.out).mono ?_); rintro e w5 ⟨rfl, k5⟩; have K5 := Lib.hid (ktr K4.out k5); have HO5 := Lib.hid (HO4.out.kpt k5); clear k5)
        | (go_at_call 19; (with_reducible refine (CB.out _ _ _ HO5.out).mono ?_); rintro e w6 ⟨rfl, k6⟩; have K6 := Lib.hid (ktr K5.out k6); clear k6))
      go_ret
      exact ⟨rfl, K6.out⟩

theorem failFinds_walk (v : Value) (z : Int) (fs : List (List Int)) (w : World) (hr : ReadsF w v fs) :
    Calls Try.prog 4 #[v, .int .i64 z] w fun e w' => e = .returned (.bool true) ∧ Kpt w w' := by
  by_cases h : checksE fs = 0
  · by_cases h1 : z < 0
    · exact ff_neg v fs z w hr h h1
    · by_cases h2 : (fs.length : Int) ≤ z
      · exact ff_big v fs z w hr h h1 h2
      · exact ff_ok v fs z w hr h (by omega) (by omega)
  · exact ff_bad v fs z w hr h

end Go.Proofs.Ytppeaenacgkgaaa
