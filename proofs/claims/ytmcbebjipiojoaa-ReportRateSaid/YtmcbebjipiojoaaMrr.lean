/-
  Merged: LawRR.
-/
import Derived.Test.YtmcbebjipiojoaaMb
import Derived.Test.YtmcbebjipiojoaaIdsOk
import Derived.Test.YtmcbebjipiojoaaFlOwn
import Derived.Deep.MidRow
import Derived.BigQuiet
-- LawRR
namespace Go.Proofs.Ytmcbebjipiojoaa
open Go.RowKit
set_option linter.unusedVariables false

/-- all units of the first k are delivered -/
def whB (fs : List (List Int)) (k : Nat) : Bool := (fs.take k).all fun l => l.getD 7 0 == l.getD 6 0
theorem whB_s {fs : List (List Int)} {k : Nat} (h : k < fs.length) : whB fs (k + 1) = (whB fs k && (fs.getD k []).getD 7 0 == (fs.getD k []).getD 6 0) := by
  have e : fs.getD k [] = fs[k] := by rw [List.getD_eq_getElem?_getD, List.getElem?_eq_getElem h]; rfl
  unfold whB
  rw [List.take_succ_eq_append_getElem h, List.all_append, e]
  simp only [List.all_cons, List.all_nil, Bool.and_true]
theorem whB_sum {fs : List (List Int)} (h : ∀ l ∈ fs, failEL l = 0) : (fs.all fun l => l.getD 7 0 == l.getD 6 0) = true ↔ sumF 7 fs = sumF 6 fs := by
  induction fs with
  | nil => simp [sumF]
  | cons l fs ih =>
    have h1 := ih fun k hk => h k (by simp [hk])
    have h2 := (fail_bd (h l (by simp))).2.1
    have h3 := sumF_bd (fs := fs) fun k hk => h k (by simp [hk])
    have e6 : sumF 6 (l :: fs) = l.getD 6 0 + sumF 6 fs := by simp [sumF]
    have e7 : sumF 7 (l :: fs) = l.getD 7 0 + sumF 7 fs := by simp [sumF]
    rw [e6, e7, List.all_cons, Bool.and_eq_true, h1, beq_iff_eq]
    omega
theorem rat_whole {d u : Int} (h0 : 0 ≤ d) (h1 : d ≤ u) (h2 : 1 ≤ u) : d * 10000 / u = 10000 ↔ d = u := by
  constructor
  · intro h
    have := Int.ediv_mul_le (d * 10000) (show u ≠ 0 by omega)
    rw [h] at this
    omega
  · rintro rfl
    exact Int.mul_ediv_cancel_left _ (by omega)
theorem rat_bd {d u : Int} (h0 : 0 ≤ d) (h1 : d ≤ u) (h2 : 1 ≤ u) : 0 ≤ d * 10000 / u ∧ d * 10000 / u ≤ 10000 := by
  refine ⟨Int.ediv_nonneg (by omega) (by omega), ?_⟩
  refine Int.ediv_le_of_le_mul (by omega) ?_
  omega
theorem sumF_set {c i : Nat} {fs : List (List Int)} {l : List Int} (h : i < fs.length) : sumF c (fs.set i l) = sumF c fs - (fs.getD i []).getD c 0 + l.getD c 0 := by
  induction fs generalizing i with
  | nil => simp at h
  | cons m fs ih =>
    cases i with
    | zero => simp [sumF]; omega
    | succ i =>
      have := ih (i := i) (by simpa using h)
      unfold sumF at this ⊢
      rw [List.set_cons_succ, List.map_cons, List.sum_cons, this, List.map_cons, List.sum_cons, List.getD_cons_succ]
      omega
theorem checks_set {fs : List (List Int)} {i : Nat} {l : List Int} (h : checksE fs = 0) (hi : i < fs.length) (hl : failEL l = 0) (he : l.getD 0 0 = (fs.getD i []).getD 0 0) : checksE (fs.set i l) = 0 := by
  unfold checksE at h ⊢
  split at h
  · cases h
  · rw [List.length_set, if_neg (by omega)]
    obtain ⟨h1, h2, -⟩ := ids_ok.1 h
    refine ids_ok.2 ⟨fun m hm => ?_, ?_, fun _ _ => by simp⟩
    · rcases List.mem_or_eq_of_mem_set hm with hm | rfl
      · exact h1 m hm
      · exact hl
    · have : idsOf (fs.set i l) = idsOf fs := by
        unfold idsOf
        apply List.ext_getElem
        · simp
        · intro j h1 h2
          simp only [List.getElem_map, List.getElem_set]
          split
          · next e =>
            subst e
            rw [he]
            rw [List.getD_eq_getElem?_getD (l := fs), List.getElem?_eq_getElem hi]; rfl
          · rfl
      rw [this]; exact h2
theorem flB_of {l : List Int} (h : failEL l = 0) : FlB l := by
  unfold failEL at h
  obtain ⟨h1, -, h3, h4⟩ := fail_0 h
  obtain ⟨h0, hi, hp, h6, h7, h8⟩ := fdue_t h1
  obtain ⟨g1, g2, g3⟩ := ftk_t h3
  intro j hj
  rcases (show j = 0 ∨ j = 1 ∨ j = 2 ∨ j = 3 ∨ j = 4 ∨ j = 5 ∨ j = 6 ∨ j = 7 ∨ j = 8 ∨ j = 9 by omega) with rfl | rfl | rfl | rfl | rfl | rfl | rfl | rfl | rfl | rfl <;> omega
/-- delivered: the fail with so many more -/
def dlvL (l : List Int) (n : Int) : List Int := [l.getD 0 0, l.getD 1 0, l.getD 2 0, l.getD 3 0, l.getD 4 0, l.getD 5 0, l.getD 6 0, l.getD 7 0 + n, l.getD 8 0, l.getD 9 0]
def dlvE (l : List Int) (n : Int) : Int := takeE (failEL l) (openL l) n
theorem dlv_0 {l : List Int} {n : Int} (h : dlvE l n = 0) : (0 ≤ l.getD 7 0 ∧ l.getD 7 0 ≤ 1073741824 ∧ 1 ≤ n ∧ n ≤ 1073741824) ∧ failEL (dlvL l n) = 0 := by
  unfold dlvE takeE at h
  split at h
  · next hf =>
    have fb := fail_bd hf
    have hf' := hf
    unfold failEL at hf'
    obtain ⟨h1, h2, h3, h4⟩ := fail_0 hf'
    obtain ⟨hx, hb, hy⟩ := ftk_t h3
    split at h
    · cases h
    · split at h
      · cases h
      · split at h
        · cases h
        · have ho := fb.2.2.2.2.2.2.2
          refine ⟨by omega, ?_⟩
          unfold failEL dlvL
          exact fail_mk h1 h2 (ftk_mk ⟨by simp only [List.getD_cons_succ, List.getD_cons_zero]; omega, hb, hy⟩) (by simp only [List.getD_cons_succ, List.getD_cons_zero]; omega)
  · next hf => exact absurd h hf
theorem OwnsN.empty (N : Nat) (T : TypeId) (w : World) (B : Nat) (h : B ≤ w.heap.size) : OwnsN N T (w.alloc (.cells #[] T)) B (.slice (some ⟨w.heap.size, 0, none⟩) 0 0) [] :=
  ⟨by simp [flatN], .inr ⟨w.heap.size, 0, #[], rfl, h, heap_alloc_new w _, Nat.le_refl _, Nat.zero_le _, by simp, by simp [flatN]⟩⟩
set_option maxRecDepth 100000 in
theorem wp_appendFs {ops : Array Oper} {rest : List Oper} {o : Oper} {a : Act} {Q : Exit → Act → World → Prop} (hgd : o.guard = none) (s x : Operand)
    (ho : o.op = .call { callee := .builtin .append, args := #[s, x], argTypes := #[25, 25] })
    (base : Nat) (v : Value) (fs gs : List (List Int)) (g off cap : Nat) (w : World) (hs : a.eval s = v) (hown : OwnsN 10 38 w base v fs) (hx : a.eval x = .slice (some ⟨g, off, none⟩) gs.length cap) (hr : ReadsF w (.slice (some ⟨g, off, none⟩) gs.length cap) gs)
    (hlen : fs.length + gs.length ≤ 100000) (hbase : base ≤ w.heap.size)
    (h : ∀ v' w', OwnsN 10 38 w' base v' (fs ++ gs) → Below base w w' → wpList Try.prog ops Q rest (a.put o.dst v') w') : wpList Try.prog ops Q (o :: rest) a w := by
  obtain ⟨i0, hi, hz0, hz1, hz2⟩ := info_parts Try.infoFail
  obtain ⟨ad, cap', e, hm, hb, hc⟩ := hr
  injection e with e1 _ e3
  subst e1 e3
  refine wpList_append_own _ hgd s x 25 ho base 38 i0 _ 10 80 Try.underlying25 hi hz0 hz1 hz2 rfl (by decide) v _ _ hs hown ⟨g, off, none⟩ gs.length cap (flatN 10 gs) hx (flatN_len 10 gs) ?_ (flatN_one 10 gs) ?_ ?_ hbase ?_
  · intro j u hu
    have hj : j < gs.length * 10 := by
      have := (List.getElem?_eq_some_iff.1 hu).1
      rwa [flatN_len] at this
    obtain ⟨q, r, hr, rfl⟩ : ∃ q r, r < 10 ∧ j = q * 10 + r := ⟨j / 10, j % 10, by omega, by omega⟩
    have hq : q < gs.length := by omega
    obtain ⟨g', off', e, h1⟩ := hc q hq
    have e' := Option.some.inj e
    injection e' with e1 e2 _
    subst e1 e2
    have ea : (⟨g, off, none⟩ : Addr).add (q * 10 + r) = ⟨g, off + q * 10 + r, none⟩ := by simp [Addr.add, Nat.add_assoc]
    rw [ea]
    rw [flatN_at gs q r hq hr] at hu
    rw [← hu]
    exact h1 r hr
  · unfold maxLen; omega
  · omega
  · intro v' w' h1 h2 _
    refine h v' w' ?_ ((Below.refl base w).grown h2 hbase hown.ge)
    unfold OwnsN
    rw [List.length_append, flatN_append]
    exact h1
theorem own_some {N : Nat} {T : TypeId} {w : World} {B : Nat} {v : Value} {fs : List (List Int)} (h : OwnsN N T w B v fs) (h0 : 0 < fs.length) : ∃ g cap, v = .slice (some ⟨g, 0, none⟩) fs.length cap := by
  rcases h.2 with ⟨rfl, e⟩ | ⟨k, cap, cur, rfl, r⟩
  · omega
  · exact ⟨k, cap, rfl⟩
theorem readsF_put {w : World} {B g n cp i : Nat} {fs : List (List Int)} {l : List Int} (h : OwnsN 10 38 w B (.slice (some ⟨g, 0, none⟩) n cp) fs) (hi : i < fs.length) (hb : ∀ m ∈ fs, FlB m) (hl : FlB l) : ReadsF (w.setCells g (i * 10) (rowN 10 l)) (.slice (some ⟨g, 0, none⟩) n cp) (fs.set i l) ∧ w.there g (i * 10) 10 ∧ B ≤ g := by
  rcases h.2 with ⟨e, _⟩ | ⟨k, cap, cur, e, hk, hh, hn, hm, hs, ht⟩
  · cases e
  · injection e with e1 e2 e3
    injection e1 with e1
    injection e1 with e1 _ _
    subst e1 e2 e3
    have hc : ∀ j, j < fs.length * 10 → cur[j]? = (flatN 10 fs)[j]? := fun j hj => by
      rw [← ht, List.getElem?_take_of_lt hj, Array.getElem?_toList]
    have hsz : fs.length * 10 ≤ cur.size := by omega
    refine ⟨⟨_, cp, by rw [List.length_set], by rw [List.length_set]; omega, fun m hm => ?_, fun k hk => ⟨g, 0, rfl, fun j hj => ?_⟩⟩, fun j hj => ?_, hk⟩
    · rcases List.mem_or_eq_of_mem_set hm with hm | rfl
      · exact hb m hm
      · exact hl
    · rw [List.length_set] at hk
      rw [Nat.zero_add, cell_of_row _ g (k * 10 + j) _ _ (0, 0) (heap_setCells (rowN 10 l) (i * 10) hh), putL_at, rowN_len]
      by_cases e : k = i
      · subst e
        rw [if_pos (by omega), show k * 10 + j - k * 10 = j by omega, rowN_at l hj]
        rw [List.getD_eq_getElem?_getD (l := fs.set k l), List.getElem?_set, if_pos rfl, if_pos hk]; rfl
      · rw [if_neg (by omega), hc _ (by omega), flatN_at fs k j hk hj]
        rw [List.getD_eq_getElem?_getD (l := fs.set i l), List.getElem?_set, if_neg (fun e' => e e'.symm), ← List.getD_eq_getElem?_getD]
    · have hj' : j < 10 := hj
      refine ⟨?_, by simp [World.frozen?, hh]⟩
      rw [cell_of_row _ g _ _ _ (0, 0) hh, hc _ (by omega), flatN_at fs i j hi hj']; rfl

set_option maxRecDepth 100000 in
set_option maxHeartbeats 4000000 in
theorem rr_none (i units R : Int) (BB : Bool) (a : Option Addr) (cap : Nat) (fs : List (List Int)) (w : World) (hF : ReadsF w (.slice a fs.length cap) fs)
    (RT : ∀ w', Kpt w w' → Calls Try.prog 11 #[.slice a fs.length cap] w' fun e w'' => e = .returned (.tuple #[.int .i64 R, .int .i64 0]) ∧ Kpt w' w'')
    (r1 : decide (R < 0) = false) (r2 : decide ((10000 : Int) < R) = false) (r3 : (R == 10000) = BB) (hBB : whB fs fs.length = BB) (hi : i < 0 ∨ (fs.length : Int) ≤ i) :
    Calls Try.prog 7 #[.slice a fs.length cap, .int .i64 i, .int .i64 units] w fun e w' => e = .returned (.bool true) ∧ Kpt w w' := by
  have RT := Lib.hid RT
  have K1 : Hid (Kpt w w) := Kpt.refl w
  have HF := Lib.hid hF
  obtain ⟨a2, cap2, e, hm, -, hcl⟩ := hF
  injection e with e1 _ e3
  subst e1 e3
  have HC := Lib.hid hcl
  have HW := Lib.hid (fun k (h : k < fs.length) => whB_s h)
  have B0 : Hid (whB fs 0 = true) := rfl
  have HBB := Lib.hid hBB
  unfold maxLen at hm
  have HI := Lib.hid hi
  clear hi
  clear hcl hBB
  go_enter Try.func7, Try.ntmps7
  go_wp2_with (first
    | (go_at_call 11; (with_reducible refine (RT.out _ K1.out).mono ?_); rintro z w1 ⟨rfl, kk⟩; have K1 := Lib.hid (ktr K1.out kk); clear kk)
    | (go_at_call 19; (with_reducible refine (reportBegun _).mono ?_); rintro z w3 ⟨rfl, kk⟩; have K1 := Lib.hid (ktr K1.out kk); clear kk)
    | (go_at_call 21; (with_reducible refine (failBegun _).mono ?_); rintro z w4 ⟨rfl, kk⟩; have K1 := Lib.hid (ktr K1.out kk); clear kk))
  go_loopw [9, 10] (fun wh ii wr => ∃ k : Nat, k ≤ fs.length ∧ wh = .bool (whB fs k) ∧ ii = .int .i64 (k : Int) ∧ Hid (Kpt w wr)) (fun wh ii _ => fs.length - (intOf ii).toNat)
  case atStart => exact ⟨0, Nat.zero_le _, by rw [B0.out], rfl, K1.out⟩
  case round =>
    obtain ⟨k, hk, rfl, rfl, HK⟩ := hrel
    by_cases hlt : k < fs.length
    · obtain ⟨g, off, rfl, hfl⟩ := HC.out k hlt
      have hf := hfl.kpt HK.out
      have hw := HW.out k hlt
      have c7 : wr.cell? ⟨g, off + k * 10 + 7, none⟩ = some (.int .i64 ((fs.getD k []).getD 7 0)) := hf 7 (by omega)
      have c6 : wr.cell? ⟨g, off + k * 10 + 6, none⟩ = some (.int .i64 ((fs.getD k []).getD 6 0)) := hf 6 (by omega)
      have y1 : decide ((k : Int) < (fs.length : Int)) = true := decide_eq_true (by omega)
      have i0 : (0 : Int) ≤ (k : Int) := by omega
      have i1 : (k : Int) < (fs.length : Int) := by omega
      have hmx : Try.prog.follows .mixedOrders = true := by kernel_rfl
      clear hf hfl
      generalize (fs.getD k []).getD 7 0 = x at *
      generalize (fs.getD k []).getD 6 0 = u at *
      generalize hbb : (x == u) = bb at *
      have HBB := Lib.hid hbb
      cases hB : whB fs k with
      | true =>
        rw [hB, Bool.true_and] at hw
        have SW := Lib.hid hw
        clear hw hB
        go_wp2
        go_quiet (fail)
        go_wp2
        go_roundw
        case rel => exact ⟨k + 1, by omega, by rw [SW.out], by go_num, Kpt.drewN HK.out _⟩
        case measure => simp [intOf]; omega
      | false =>
        rw [hB, Bool.false_and] at hw
        have SW := Lib.hid hw
        clear hw hB
        go_wp2
        go_quiet (fail)
        go_wp2
        go_roundw
        case rel => exact ⟨k + 1, by omega, by rw [SW.out], by go_num, Kpt.drewN HK.out _⟩
        case measure => simp [intOf]; omega
    · have hkl : k = fs.length := by omega
      have y1 : decide ((k : Int) < (fs.length : Int)) = false := decide_eq_false (by omega)
      have eB : whB fs k = BB := by rw [hkl]; exact HBB.out
      rw [eB]
      clear eB
      have KE := Lib.hid HK.out
      by_cases hi0 : i < 0
      · have q1 : decide (i < 0) = true := decide_eq_true hi0
        clear hi0
        cases BB with
        | true => 
          go_wp2
          go_ret
          exact ⟨rfl, KE.out⟩
        | false =>
          go_wp2
          go_ret
          exact ⟨rfl, KE.out⟩
      · have q1 : decide (i < 0) = false := decide_eq_false hi0
        have q2 : decide ((fs.length : Int) ≤ i) = true := decide_eq_true (by have := HI.out; omega)
        clear hi0
        cases BB with
        | true =>
          go_wp2
          go_ret
          exact ⟨rfl, KE.out⟩
        | false =>
          go_wp2
          go_ret
          exact ⟨rfl, KE.out⟩

set_option maxRecDepth 100000 in
set_option maxHeartbeats 4000000 in
theorem rr_bad (i units R : Int) (BB : Bool) (a : Option Addr) (cap : Nat) (fs : List (List Int)) (w : World) (hF : ReadsF w (.slice a fs.length cap) fs)
    (RT : ∀ w', Kpt w w' → Calls Try.prog 11 #[.slice a fs.length cap] w' fun e w'' => e = .returned (.tuple #[.int .i64 R, .int .i64 0]) ∧ Kpt w' w'')
    (r1 : decide (R < 0) = false) (r2 : decide ((10000 : Int) < R) = false) (r3 : (R == 10000) = BB) (hBB : whB fs fs.length = BB) (ii : Nat) (hi : i = (ii : Int)) (hii : ii < fs.length) (E : Int) (hE : (E != 0) = true) (DL : ∀ w, Calls Try.prog 27 #[.agg #[.int .i64 (((fs.getD ii []).getD 0 0)), .int .i64 ((fs.getD ii []).getD 1 0), .int .i64 ((fs.getD ii []).getD 2 0), .int .i64 ((fs.getD ii []).getD 3 0), .int .i64 ((fs.getD ii []).getD 4 0), .int .i64 ((fs.getD ii []).getD 5 0), .int .i64 ((fs.getD ii []).getD 6 0), .int .i64 ((fs.getD ii []).getD 7 0), .int .i64 ((fs.getD ii []).getD 8 0), .int .i64 ((fs.getD ii []).getD 9 0)], .int .i64 units] w fun e w' => e = .returned (.tuple #[.agg #[.int .i64 0, .int .i64 0, .int .i64 0, .int .i64 0, .int .i64 0, .int .i64 0, .int .i64 0, .int .i64 0, .int .i64 0, .int .i64 0], .int .i64 E]) ∧ Kpt w w') :
    Calls Try.prog 7 #[.slice a fs.length cap, .int .i64 i, .int .i64 units] w fun e w' => e = .returned (.bool true) ∧ Kpt w w' := by
  have RT := Lib.hid RT
  have K1 : Hid (Kpt w w) := Kpt.refl w
  have HF := Lib.hid hF
  obtain ⟨a2, cap2, e, hm, -, hcl⟩ := hF
  injection e with e1 _ e3
  subst e1 e3
  have HC := Lib.hid hcl
  have HW := Lib.hid (fun k (h : k < fs.length) => whB_s h)
  have B0 : Hid (whB fs 0 = true) := rfl
  have HBB := Lib.hid hBB
  unfold maxLen at hm
  subst hi
  have hii := Lib.hid hii
  have DL := Lib.hid DL
  clear hcl hBB
  go_enter Try.func7, Try.ntmps7
  go_wp2_with (first
    | (go_at_call 11; (with_reducible refine (RT.out _ K1.out).mono ?_); rintro z w1 ⟨rfl, kk⟩; have K1 := Lib.hid (ktr K1.out kk); clear kk)
    | (go_at_call 19; (with_reducible refine (reportBegun _).mono ?_); rintro z w3 ⟨rfl, kk⟩; have K1 := Lib.hid (ktr K1.out kk); clear kk)
    | (go_at_call 21; (with_reducible refine (failBegun _).mono ?_); rintro z w4 ⟨rfl, kk⟩; have K1 := Lib.hid (ktr K1.out kk); clear kk))
  go_loopw [9, 10] (fun wh ii wr => ∃ k : Nat, k ≤ fs.length ∧ wh = .bool (whB fs k) ∧ ii = .int .i64 (k : Int) ∧ Hid (Kpt w wr)) (fun wh ii _ => fs.length - (intOf ii).toNat)
  case atStart => exact ⟨0, Nat.zero_le _, by rw [B0.out], rfl, K1.out⟩
  case round =>
    obtain ⟨k, hk, rfl, rfl, HK⟩ := hrel
    by_cases hlt : k < fs.length
    · obtain ⟨g, off, rfl, hfl⟩ := HC.out k hlt
      have hf := hfl.kpt HK.out
      have hw := HW.out k hlt
      have c7 : wr.cell? ⟨g, off + k * 10 + 7, none⟩ = some (.int .i64 ((fs.getD k []).getD 7 0)) := hf 7 (by omega)
      have c6 : wr.cell? ⟨g, off + k * 10 + 6, none⟩ = some (.int .i64 ((fs.getD k []).getD 6 0)) := hf 6 (by omega)
      have y1 : decide ((k : Int) < (fs.length : Int)) = true := decide_eq_true (by omega)
      have i0 : (0 : Int) ≤ (k : Int) := by omega
      have i1 : (k : Int) < (fs.length : Int) := by omega
      have hmx : Try.prog.follows .mixedOrders = true := by kernel_rfl
      clear hf hfl
      generalize (fs.getD k []).getD 7 0 = x at *
      generalize (fs.getD k []).getD 6 0 = u at *
      generalize hbb : (x == u) = bb at *
      have HBB := Lib.hid hbb
      cases hB : whB fs k with
      | true =>
        rw [hB, Bool.true_and] at hw
        have SW := Lib.hid hw
        clear hw hB
        go_wp2
        go_quiet (fail)
        go_wp2
        go_roundw
        case rel => exact ⟨k + 1, by omega, by rw [SW.out], by go_num, Kpt.drewN HK.out _⟩
        case measure => simp [intOf]; omega
      | false =>
        rw [hB, Bool.false_and] at hw
        have SW := Lib.hid hw
        clear hw hB
        go_wp2
        go_quiet (fail)
        go_wp2
        go_roundw
        case rel => exact ⟨k + 1, by omega, by rw [SW.out], by go_num, Kpt.drewN HK.out _⟩
        case measure => simp [intOf]; omega
    · have hkl : k = fs.length := by omega
      have y1 : decide ((k : Int) < (fs.length : Int)) = false := decide_eq_false (by omega)
      have eB : whB fs k = BB := by rw [hkl]; exact HBB.out
      rw [eB]
      clear eB
      have KE := Lib.hid HK.out
      obtain ⟨g, off, rfl, hfl⟩ := HC.out ii hii.out
      have hf := hfl.kpt KE.out
      have q1 : decide ((ii : Int) < 0) = false := decide_eq_false (by omega)
      have q2 : decide ((fs.length : Int) ≤ (ii : Int)) = false := decide_eq_false (by have := hii.out; omega)
      have i0 : (0 : Int) ≤ (ii : Int) := by omega
      have i1 : (ii : Int) < (fs.length : Int) := by have := hii.out; omega
      have c0 : wr.cell? ⟨g, off + ii * 10, none⟩ = _ := hf 0 (by omega)
      have c1 : wr.cell? ⟨g, off + ii * 10 + 1, none⟩ = _ := hf 1 (by omega)
      have c2 : wr.cell? ⟨g, off + ii * 10 + 2, none⟩ = _ := hf 2 (by omega)
      have c3 : wr.cell? ⟨g, off + ii * 10 + 3, none⟩ = _ := hf 3 (by omega)
      have c4 : wr.cell? ⟨g, off + ii * 10 + 4, none⟩ = _ := hf 4 (by omega)
      have c5 : wr.cell? ⟨g, off + ii * 10 + 5, none⟩ = _ := hf 5 (by omega)
      have c6 : wr.cell? ⟨g, off + ii * 10 + 6, none⟩ = _ := hf 6 (by omega)
      have c7 : wr.cell? ⟨g, off + ii * 10 + 7, none⟩ = _ := hf 7 (by omega)
      have c8 : wr.cell? ⟨g, off + ii * 10 + 8, none⟩ = _ := hf 8 (by omega)
      have c9 : wr.cell? ⟨g, off + ii * 10 + 9, none⟩ = _ := hf 9 (by omega)
      clear hf hfl
      generalize (fs.getD ii []).getD 0 0 = z0 at *
      generalize (fs.getD ii []).getD 1 0 = z1 at *
      generalize (fs.getD ii []).getD 2 0 = z2 at *
      generalize (fs.getD ii []).getD 3 0 = z3 at *
      generalize (fs.getD ii []).getD 4 0 = z4 at *
      generalize (fs.getD ii []).getD 5 0 = z5 at *
      generalize (fs.getD ii []).getD 6 0 = z6 at *
      generalize (fs.getD ii []).getD 7 0 = z7 at *
      generalize (fs.getD ii []).getD 8 0 = z8 at *
      generalize (fs.getD ii []).getD 9 0 = z9 at *
      cases BB with
      | true =>
        go_wp2_with (first
            | (go_at_call 27; (with_reducible refine (DL.out _).mono ?_); rintro z w5 ⟨rfl, kk⟩; have K5 := Lib.hid (ktr KE.out kk); have ZB : Hid (Blk (w5.alloc (.cells #[.int .i64 0, .int .i64 0, .int .i64 0, .int .i64 0, .int .i64 0, .int .i64 0, .int .i64 0, .int .i64 0, .int .i64 0, .int .i64 0] 38)) w5.heap.size _ 38) := Blk.made w5 _ 38; have KZ : Hid (Kpt w (w5.alloc (.cells #[.int .i64 0, .int .i64 0, .int .i64 0, .int .i64 0, .int .i64 0, .int .i64 0, .int .i64 0, .int .i64 0, .int .i64 0, .int .i64 0] 38))) := Lib.hid (Kpt.alloc K5.out _); clear kk)
            | (refine wp_storeF rfl (.tmp 11) (.tmp 78) rfl w5.heap.size _ _ rfl rfl ZB.out rfl rfl (by simp [Value.oneCell']) ?_; intro w9 r9 k9 o9; have R9 := Lib.hid r9; have K9 : Hid (Kpt w w9) := Lib.hid (k9 _ _ KZ.out (K5.out.size)); clear r9 k9 o9))
        go_ret
        exact ⟨rfl, K9.out⟩
      | false =>
        go_wp2_with (first
            | (go_at_call 27; (with_reducible refine (DL.out _).mono ?_); rintro z w5 ⟨rfl, kk⟩; have K5 := Lib.hid (ktr KE.out kk); have ZB : Hid (Blk (w5.alloc (.cells #[.int .i64 0, .int .i64 0, .int .i64 0, .int .i64 0, .int .i64 0, .int .i64 0, .int .i64 0, .int .i64 0, .int .i64 0, .int .i64 0] 38)) w5.heap.size _ 38) := Blk.made w5 _ 38; have KZ : Hid (Kpt w (w5.alloc (.cells #[.int .i64 0, .int .i64 0, .int .i64 0, .int .i64 0, .int .i64 0, .int .i64 0, .int .i64 0, .int .i64 0, .int .i64 0, .int .i64 0] 38))) := Lib.hid (Kpt.alloc K5.out _); clear kk)
            | (refine wp_storeF rfl (.tmp 11) (.tmp 78) rfl w5.heap.size _ _ rfl rfl ZB.out rfl rfl (by simp [Value.oneCell']) ?_; intro w9 r9 k9 o9; have R9 := Lib.hid r9; have K9 : Hid (Kpt w w9) := Lib.hid (k9 _ _ KZ.out (K5.out.size)); clear r9 k9 o9))
        go_ret
        exact ⟨rfl, K9.out⟩

set_option maxRecDepth 100000 in
set_option maxHeartbeats 4000000 in
theorem rr_some (i units R : Int) (BB : Bool) (a : Option Addr) (cap : Nat) (fs : List (List Int)) (w : World) (hF : ReadsF w (.slice a fs.length cap) fs)
    (RT : ∀ w', Kpt w w' → Calls Try.prog 11 #[.slice a fs.length cap] w' fun e w'' => e = .returned (.tuple #[.int .i64 R, .int .i64 0]) ∧ Kpt w' w'')
    (r1 : decide (R < 0) = false) (r2 : decide ((10000 : Int) < R) = false) (r3 : (R == 10000) = BB) (hBB : whB fs fs.length = BB) (ii : Nat) (hi : i = (ii : Int)) (hii : ii < fs.length) (h60 : fs.length ≤ 60) (R2 : Int) (hR2 : decide (R ≤ R2) = true) (hfb : ∀ m ∈ fs, FlB m) (hlb : FlB (dlvL (fs.getD ii []) units)) (DL : ∀ w, Calls Try.prog 27 #[.agg #[.int .i64 (((fs.getD ii []).getD 0 0)), .int .i64 ((fs.getD ii []).getD 1 0), .int .i64 ((fs.getD ii []).getD 2 0), .int .i64 ((fs.getD ii []).getD 3 0), .int .i64 ((fs.getD ii []).getD 4 0), .int .i64 ((fs.getD ii []).getD 5 0), .int .i64 ((fs.getD ii []).getD 6 0), .int .i64 ((fs.getD ii []).getD 7 0), .int .i64 ((fs.getD ii []).getD 8 0), .int .i64 ((fs.getD ii []).getD 9 0)], .int .i64 units] w fun e w' => e = .returned (.tuple #[.agg #[.int .i64 (((fs.getD ii []).getD 0 0)), .int .i64 ((fs.getD ii []).getD 1 0), .int .i64 ((fs.getD ii []).getD 2 0), .int .i64 ((fs.getD ii []).getD 3 0), .int .i64 ((fs.getD ii []).getD 4 0), .int .i64 ((fs.getD ii []).getD 5 0), .int .i64 ((fs.getD ii []).getD 6 0), .int .i64 ((fs.getD ii []).getD 7 0 + units), .int .i64 ((fs.getD ii []).getD 8 0), .int .i64 ((fs.getD ii []).getD 9 0)], .int .i64 0]) ∧ Kpt w w')
    (RS : ∀ w' v', ReadsF w' v' (fs.set ii (dlvL (fs.getD ii []) units)) → Calls Try.prog 11 #[v'] w' fun e w'' => e = .returned (.tuple #[.int .i64 R2, .int .i64 0]) ∧ Kpt w' w'') :
    Calls Try.prog 7 #[.slice a fs.length cap, .int .i64 i, .int .i64 units] w fun e w' => e = .returned (.bool true) ∧ Kpt w w' := by
  have RT := Lib.hid RT
  have K1 : Hid (Kpt w w) := Kpt.refl w
  have HF := Lib.hid hF
  obtain ⟨a2, cap2, e, hm, -, hcl⟩ := hF
  injection e with e1 _ e3
  subst e1 e3
  have HC := Lib.hid hcl
  have HW := Lib.hid (fun k (h : k < fs.length) => whB_s h)
  have B0 : Hid (whB fs 0 = true) := rfl
  have HBB := Lib.hid hBB
  unfold maxLen at hm
  subst hi
  have PT := Lib.hid (fun w' B g n cp (h : OwnsN 10 38 w' B (.slice (some ⟨g, 0, none⟩) n cp) ([] ++ fs)) => readsF_put (by simpa using h) hii hfb hlb)
  have POS : Hid (0 < ([] ++ fs).length) := by unfold Hid; simp; omega
  have LN : Hid (([] : List (List Int)).length + fs.length ≤ 100000) := by unfold Hid; simp; omega
  have hii := Lib.hid hii
  have DL := Lib.hid DL
  have RS := Lib.hid RS
  unfold dlvL at PT RS
  clear hfb hlb
  clear hcl hBB
  go_enter Try.func7, Try.ntmps7
  go_wp2_with (first
    | (go_at_call 11; (with_reducible refine (RT.out _ K1.out).mono ?_); rintro z w1 ⟨rfl, kk⟩; have K1 := Lib.hid (ktr K1.out kk); clear kk)
    | (go_at_call 19; (with_reducible refine (reportBegun _).mono ?_); rintro z w3 ⟨rfl, kk⟩; have K1 := Lib.hid (ktr K1.out kk); clear kk)
    | (go_at_call 21; (with_reducible refine (failBegun _).mono ?_); rintro z w4 ⟨rfl, kk⟩; have K1 := Lib.hid (ktr K1.out kk); clear kk))
  go_loopw [9, 10] (fun wh ii wr => ∃ k : Nat, k ≤ fs.length ∧ wh = .bool (whB fs k) ∧ ii = .int .i64 (k : Int) ∧ Hid (Kpt w wr)) (fun wh ii _ => fs.length - (intOf ii).toNat)
  case atStart => exact ⟨0, Nat.zero_le _, by rw [B0.out], rfl, K1.out⟩
  case round =>
    obtain ⟨k, hk, rfl, rfl, HK⟩ := hrel
    by_cases hlt : k < fs.length
    · obtain ⟨g, off, rfl, hfl⟩ := HC.out k hlt
      have hf := hfl.kpt HK.out
      have hw := HW.out k hlt
      have c7 : wr.cell? ⟨g, off + k * 10 + 7, none⟩ = some (.int .i64 ((fs.getD k []).getD 7 0)) := hf 7 (by omega)
      have c6 : wr.cell? ⟨g, off + k * 10 + 6, none⟩ = some (.int .i64 ((fs.getD k []).getD 6 0)) := hf 6 (by omega)
      have y1 : decide ((k : Int) < (fs.length : Int)) = true := decide_eq_true (by omega)
      have i0 : (0 : Int) ≤ (k : Int) := by omega
      have i1 : (k : Int) < (fs.length : Int) := by omega
      have hmx : Try.prog.follows .mixedOrders = true := by kernel_rfl
      clear hf hfl
      generalize (fs.getD k []).getD 7 0 = x at *
      generalize (fs.getD k []).getD 6 0 = u at *
      generalize hbb : (x == u) = bb at *
      have HBB := Lib.hid hbb
      cases hB : whB fs k with
      | true =>
        rw [hB, Bool.true_and] at hw
        have SW := Lib.hid hw
        clear hw hB
        go_wp2
        go_quiet (fail)
        go_wp2
        go_roundw
        case rel => exact ⟨k + 1, by omega, by rw [SW.out], by go_num, Kpt.drewN HK.out _⟩
        case measure => simp [intOf]; omega
      | false =>
        rw [hB, Bool.false_and] at hw
        have SW := Lib.hid hw
        clear hw hB
        go_wp2
        go_quiet (fail)
        go_wp2
        go_roundw
        case rel => exact ⟨k + 1, by omega, by rw [SW.out], by go_num, Kpt.drewN HK.out _⟩
        case measure => simp [intOf]; omega
    · have hkl : k = fs.length := by omega
      have y1 : decide ((k : Int) < (fs.length : Int)) = false := decide_eq_false (by omega)
      have eB : whB fs k = BB := by rw [hkl]; exact HBB.out
      rw [eB]
      clear eB
      have KE := Lib.hid HK.out
      obtain ⟨g, off, rfl, hfl⟩ := HC.out ii hii.out
      have hf := hfl.kpt KE.out
      have q1 : decide ((ii : Int) < 0) = false := decide_eq_false (by omega)
      have q2 : decide ((fs.length : Int) ≤ (ii : Int)) = false := decide_eq_false (by have := hii.out; omega)
      have i0 : (0 : Int) ≤ (ii : Int) := by omega
      have i1 : (ii : Int) < (fs.length : Int) := by have := hii.out; omega
      have c0 : wr.cell? ⟨g, off + ii * 10, none⟩ = _ := hf 0 (by omega)
      have c1 : wr.cell? ⟨g, off + ii * 10 + 1, none⟩ = _ := hf 1 (by omega)
      have c2 : wr.cell? ⟨g, off + ii * 10 + 2, none⟩ = _ := hf 2 (by omega)
      have c3 : wr.cell? ⟨g, off + ii * 10 + 3, none⟩ = _ := hf 3 (by omega)
      have c4 : wr.cell? ⟨g, off + ii * 10 + 4, none⟩ = _ := hf 4 (by omega)
      have c5 : wr.cell? ⟨g, off + ii * 10 + 5, none⟩ = _ := hf 5 (by omega)
      have c6 : wr.cell? ⟨g, off + ii * 10 + 6, none⟩ = _ := hf 6 (by omega)
      have c7 : wr.cell? ⟨g, off + ii * 10 + 7, none⟩ = _ := hf 7 (by omega)
      have c8 : wr.cell? ⟨g, off + ii * 10 + 8, none⟩ = _ := hf 8 (by omega)
      have c9 : wr.cell? ⟨g, off + ii * 10 + 9, none⟩ = _ := hf 9 (by omega)
      clear hf hfl
      generalize (fs.getD ii []).getD 0 0 = z0 at *
      generalize (fs.getD ii []).getD 1 0 = z1 at *
      generalize (fs.getD ii []).getD 2 0 = z2 at *
      generalize (fs.getD ii []).getD 3 0 = z3 at *
      generalize (fs.getD ii []).getD 4 0 = z4 at *
      generalize (fs.getD ii []).getD 5 0 = z5 at *
      generalize (fs.getD ii []).getD 6 0 = z6 at *
      generalize (fs.getD ii []).getD 7 0 = z7 at *
      generalize (fs.getD ii []).getD 8 0 = z8 at *
      generalize (fs.getD ii []).getD 9 0 = z9 at *
      have ONE : Hid ((#[.int .i64 z0, .int .i64 z1, .int .i64 z2, .int .i64 z3, .int .i64 z4, .int .i64 z5, .int .i64 z6, .int .i64 (z7 + units), .int .i64 z8, .int .i64 z9] : Array Value).all (·.oneCell') = true) := by unfold Hid; simp [Value.oneCell']
      cases BB with
      | true =>
        go_wp2_with (first
            | (go_at_call 27; (with_reducible refine (DL.out _).mono ?_); rintro z w5 ⟨rfl, kk⟩; have K5 := Lib.hid (ktr KE.out kk); have ZB : Hid (Blk (w5.alloc (.cells #[.int .i64 0, .int .i64 0, .int .i64 0, .int .i64 0, .int .i64 0, .int .i64 0, .int .i64 0, .int .i64 0, .int .i64 0, .int .i64 0] 38)) w5.heap.size _ 38) := Blk.made w5 _ 38; have KZ : Hid (Kpt w (w5.alloc (.cells #[.int .i64 0, .int .i64 0, .int .i64 0, .int .i64 0, .int .i64 0, .int .i64 0, .int .i64 0, .int .i64 0, .int .i64 0, .int .i64 0] 38))) := Lib.hid (Kpt.alloc K5.out _); clear kk)
            | (refine wp_storeF rfl (.tmp 11) (.tmp 78) rfl w5.heap.size _ _ rfl rfl ZB.out rfl rfl (by simp [Value.oneCell']) ?_; intro w9 r9 k9 o9; have R9 := Lib.hid r9; have K9 : Hid (Kpt w w9) := Lib.hid (k9 _ _ KZ.out (K5.out.size)); have O0 := Lib.hid (OwnsN.empty 10 38 w9 w9.heap.size (Nat.le_refl _)); have HRd := Lib.hid (HF.out.kpt (Kpt.alloc K9.out (.cells #[] 38))); have BN : Hid (w9.heap.size ≤ (w9.alloc (.cells #[] 38)).heap.size) := Lib.hid (by simp); clear r9 k9 o9)
            | (at_builtin; refine wp_appendFs rfl (.tmp 82) (.tmp 83) rfl w9.heap.size _ [] fs g off cap _ rfl O0.out rfl HRd.out LN.out BN.out ?_; intro v10 w10 o10 b10; obtain ⟨gm, cm, rfl⟩ := own_some o10 POS.out; have K10 : Hid (Kpt w w10) := Lib.hid (Below.trans (Kpt.alloc K9.out (.cells #[] 38)) (b10.mono K9.out.size)); have X10 : Hid (Blk w10 w5.heap.size _ 38) := Lib.hid ((b10.block _ R9.out.lt).trans (R9.out.alloc (.cells #[] 38))); obtain ⟨q1', q2', q3'⟩ := PT.out w10 w9.heap.size gm fs.length cm o10; have Q1 : Hid (ReadsF (w10.setCells gm (ii * 10) (#[.int .i64 z0, .int .i64 z1, .int .i64 z2, .int .i64 z3, .int .i64 z4, .int .i64 z5, .int .i64 z6, .int .i64 (z7 + units), .int .i64 z8, .int .i64 z9] : Array Value).toList) (.slice (some ⟨gm, 0, none⟩) fs.length cm) (fs.set ii [z0, z1, z2, z3, z4, z5, z6, z7 + units, z8, z9])) := Lib.hid q1'; have K11 : Hid (Kpt w (w10.setCells gm (ii * 10) (#[.int .i64 z0, .int .i64 z1, .int .i64 z2, .int .i64 z3, .int .i64 z4, .int .i64 z5, .int .i64 z6, .int .i64 (z7 + units), .int .i64 z8, .int .i64 z9] : Array Value).toList)) := Lib.hid (Kpt.setCells K10.out (Nat.le_trans K9.out.size q3') (ii * 10) _); have Q2 := Lib.hid q2'; have Q3 := Lib.hid q3'; clear o10 b10 q1' q2' q3')
            | (refine wp_loadF rfl (.tmp 11) rfl w5.heap.size _ rfl X10.out rfl ?_)
            | (refine wpList_store_mid rfl 38 (.tmp 88) (.tmp 87) rfl gm (ii * 10) #[.int .i64 z0, .int .i64 z1, .int .i64 z2, .int .i64 z3, .int .i64 z4, .int .i64 z5, .int .i64 z6, .int .i64 (z7 + units), .int .i64 z8, .int .i64 z9] rfl rfl Q2.out Try.sizeFail ONE.out ?_; generalize World.setCells w10 gm (ii * 10) (#[.int .i64 z0, .int .i64 z1, .int .i64 z2, .int .i64 z3, .int .i64 z4, .int .i64 z5, .int .i64 z6, .int .i64 (z7 + units), .int .i64 z8, .int .i64 z9] : Array Value).toList = w11 at Q1 K11 ⊢)
            | (go_at_call 11; (with_reducible refine (RS.out _ _ Q1.out).mono ?_); rintro z w12 ⟨rfl, kk⟩; have K12 := Lib.hid (ktr K11.out kk); clear kk))
        go_ret
        exact ⟨rfl, K12.out⟩
      | false =>
        go_wp2_with (first
            | (go_at_call 27; (with_reducible refine (DL.out _).mono ?_); rintro z w5 ⟨rfl, kk⟩; have K5 := Lib.hid (ktr KE.out kk); have ZB : Hid (Blk (w5.alloc (.cells #[.int .i64 0, .int .i64 0, .int .i64 0, .int .i64 0, .int .i64 0, .int .i64 0, .int .i64 0, .int .i64 0, .int .i64 0, .int .i64 0] 38)) w5.heap.size _ 38) := Blk.made w5 _ 38; have KZ : Hid (Kpt w (w5.alloc (.cells #[.int .i64 0, .int .i64 0, .int .i64 0, .int .i64 0, .int .i64 0, .int .i64 0, .int .i64 0, .int .i64 0, .int .i64 0, .int .i64 0] 38))) := Lib.hid (Kpt.alloc K5.out _); clear kk)
            | (refine wp_storeF rfl (.tmp 11) (.tmp 78) rfl w5.heap.size _ _ rfl rfl ZB.out rfl rfl (by simp [Value.oneCell']) ?_; intro w9 r9 k9 o9; have R9 := Lib.hid r9; have K9 : Hid (Kpt w w9) := Lib.hid (k9 _ _ KZ.out (K5.out.size)); have O0 := Lib.hid (OwnsN.empty 10 38 w9 w9.heap.size (Nat.le_refl _)); have HRd := Lib.hid (HF.out.kpt (Kpt.alloc K9.out (.cells #[] 38))); have BN : Hid (w9.heap.size ≤ (w9.alloc (.cells #[] 38)).heap.size) := Lib.hid (by simp); clear r9 k9 o9)
            | (at_builtin; refine wp_appendFs rfl (.tmp 82) (.tmp 83) rfl w9.heap.size _ [] fs g off cap _ rfl O0.out rfl HRd.out LN.out BN.out ?_; intro v10 w10 o10 b10; obtain ⟨gm, cm, rfl⟩ := own_some o10 POS.out; have K10 : Hid (Kpt w w10) := Lib.hid (Below.trans (Kpt.alloc K9.out (.cells #[] 38)) (b10.mono K9.out.size)); have X10 : Hid (Blk w10 w5.heap.size _ 38) := Lib.hid ((b10.block _ R9.out.lt).trans (R9.out.alloc (.cells #[] 38))); obtain ⟨q1', q2', q3'⟩ := PT.out w10 w9.heap.size gm fs.length cm o10; have Q1 : Hid (ReadsF (w10.setCells gm (ii * 10) (#[.int .i64 z0, .int .i64 z1, .int .i64 z2, .int .i64 z3, .int .i64 z4, .int .i64 z5, .int .i64 z6, .int .i64 (z7 + units), .int .i64 z8, .int .i64 z9] : Array Value).toList) (.slice (some ⟨gm, 0, none⟩) fs.length cm) (fs.set ii [z0, z1, z2, z3, z4, z5, z6, z7 + units, z8, z9])) := Lib.hid q1'; have K11 : Hid (Kpt w (w10.setCells gm (ii * 10) (#[.int .i64 z0, .int .i64 z1, .int .i64 z2, .int .i64 z3, .int .i64 z4, .int .i64 z5, .int .i64 z6, .int .i64 (z7 + units), .int .i64 z8, .int .i64 z9] : Array Value).toList)) := Lib.hid (Kpt.setCells K10.out (Nat.le_trans K9.out.size q3') (ii * 10) _); have Q2 := Lib.hid q2'; have Q3 := Lib.hid q3'; clear o10 b10 q1' q2' q3')
            | (refine wp_loadF rfl (.tmp 11) rfl w5.heap.size _ rfl X10.out rfl ?_)
            | (refine wpList_store_mid rfl 38 (.tmp 88) (.tmp 87) rfl gm (ii * 10) #[.int .i64 z0, .int .i64 z1, .int .i64 z2, .int .i64 z3, .int .i64 z4, .int .i64 z5, .int .i64 z6, .int .i64 (z7 + units), .int .i64 z8, .int .i64 z9] rfl rfl Q2.out Try.sizeFail ONE.out ?_; generalize World.setCells w10 gm (ii * 10) (#[.int .i64 z0, .int .i64 z1, .int .i64 z2, .int .i64 z3, .int .i64 z4, .int .i64 z5, .int .i64 z6, .int .i64 (z7 + units), .int .i64 z8, .int .i64 z9] : Array Value).toList = w11 at Q1 K11 ⊢)
            | (go_at_call 11; (with_reducible refine (RS.out _ _ Q1.out).mono ?_); rintro z w12 ⟨rfl, kk⟩; have K12 := Lib.hid (ktr K11.out kk); clear kk))
        go_ret
        exact ⟨rfl, K12.out⟩


set_option maxRecDepth 100000 in
set_option maxHeartbeats 4000000 in
theorem rr_err (i units E : Int) (v : Value) (fs : List (List Int)) (w : World) (hF : ReadsF w v fs) (hE : (E != 0) = true)
    (RT : ∀ w', Kpt w w' → Calls Try.prog 11 #[v] w' fun e w'' => e = .returned (.tuple #[.int .i64 0, .int .i64 E]) ∧ Kpt w' w'') :
    Calls Try.prog 7 #[v, .int .i64 i, .int .i64 units] w fun e w' => e = .returned (.bool true) ∧ Kpt w w' := by
  have RT := Lib.hid RT
  have K1 : Hid (Kpt w w) := Kpt.refl w
  obtain ⟨a, cap, rfl, -⟩ := hF
  generalize fs.length = n at *
  go_enter Try.func7, Try.ntmps7
  go_wp2_with (first
    | (go_at_call 11; (with_reducible refine (RT.out _ K1.out).mono ?_); rintro z w1 ⟨rfl, kk⟩; have K1 := Lib.hid (ktr K1.out kk); clear kk)
    | (go_at_call 19; (with_reducible refine (reportBegun _).mono ?_); rintro z w3 ⟨rfl, kk⟩; have K1 := Lib.hid (ktr K1.out kk); clear kk)
    | (go_at_call 21; (with_reducible refine (failBegun _).mono ?_); rintro z w4 ⟨rfl, kk⟩; have K1 := Lib.hid (ktr K1.out kk); clear kk))
  go_ret
  exact ⟨rfl, K1.out⟩

theorem dlvL_d {c : Nat} {l : List Int} {n : Int} (hc : c = 6 ∨ c = 7) : (dlvL l n).getD c 0 = l.getD c 0 + if c = 7 then n else 0 := by
  rcases hc with rfl | rfl <;> simp [dlvL]
theorem rr_plain (v : Value) (i units : Int) (fs : List (List Int)) (w : World) (hF : ReadsF w v fs) :
    Calls Try.prog 7 #[v, .int .i64 i, .int .i64 units] w fun e w' => e = .returned (.bool true) ∧ Kpt w w' := by
  have RT := fun w' (k : Kpt w w') => rate_run v fs w' (hF.kpt k)
  by_cases hE : ratE fs = 0
  · have hc : checksE fs = 0 := by
      unfold ratE at hE
      split at hE
      · assumption
      · next h => exact absurd hE h
    have hn : fs.length ≠ 0 := by
      intro e
      unfold ratE at hE
      rw [if_pos hc, if_pos e] at hE
      cases hE
    obtain ⟨h60, hfl⟩ := checksE_0 hc
    have hb := sumF_bd hfl
    have hR : ratR fs = sumF 7 fs * 10000 / sumF 6 fs := if_pos hE
    have rb := rat_bd hb.1 hb.2.1 (by omega)
    have rw' := rat_whole hb.1 hb.2.1 (by omega)
    rw [hE] at RT
    have hwh : whB fs fs.length = (ratR fs == 10000) := by
      unfold whB
      rw [List.take_length, Bool.eq_iff_iff, whB_sum hfl, beq_iff_eq, hR, rw']
    obtain ⟨a, cap, rfl, -⟩ := id hF
    by_cases hi : i < 0 ∨ (fs.length : Int) ≤ i
    · exact rr_none i units (ratR fs) _ a cap fs w hF RT (decide_eq_false (by omega)) (decide_eq_false (by omega)) rfl hwh hi
    · obtain ⟨ii, rfl⟩ : ∃ ii : Nat, i = (ii : Int) := ⟨i.toNat, by omega⟩
      have hii : ii < fs.length := by omega
      by_cases hd : dlvE (fs.getD ii []) units = 0
      · obtain ⟨d1, d2⟩ := dlv_0 hd
        have hc2 := checks_set hc hii d2 (by simp [dlvL])
        have h2 := checksE_0 hc2
        have hE2 : ratE (fs.set ii (dlvL (fs.getD ii []) units)) = 0 := by unfold ratE; rw [if_pos hc2, if_neg (by rw [List.length_set]; exact hn)]
        have hR2 : ratR (fs.set ii (dlvL (fs.getD ii []) units)) = (sumF 7 fs + units) * 10000 / sumF 6 fs := by
          unfold ratR
          rw [if_pos hE2, sumF_set hii, sumF_set hii, dlvL_d (.inr rfl), dlvL_d (.inl rfl), if_pos rfl, if_neg (by decide)]
          congr 2 <;> omega
        refine rr_some (ii : Int) units (ratR fs) _ a cap fs w hF RT (decide_eq_false (by omega)) (decide_eq_false (by omega)) rfl hwh ii rfl hii h60 (ratR (fs.set ii (dlvL (fs.getD ii []) units))) (decide_eq_true ?_) (fun m hm => flB_of (hfl m hm)) (flB_of d2) (fun w' => deliver_ok _ _ _ _ _ _ _ _ _ _ _ w' hd d1.1 d1.2.1 d1.2.2.1 d1.2.2.2) (fun w' v' h => ?_)
        · rw [hR, hR2]
          exact Int.ediv_le_ediv (by omega) (by omega)
        · have := rate_run v' _ w' h
          rw [hE2] at this
          exact this
      · exact rr_bad (ii : Int) units (ratR fs) _ a cap fs w hF RT (decide_eq_false (by omega)) (decide_eq_false (by omega)) rfl hwh ii rfl hii (dlvE (fs.getD ii []) units) (bne_iff_ne.2 hd) (fun w' => deliver_bad _ _ _ _ _ _ _ _ _ _ _ _ w' rfl hd)
  · have hR : ratR fs = 0 := if_neg hE
    rw [hR] at RT
    exact rr_err i units (ratE fs) v fs w hF (bne_iff_ne.2 hE) RT

end Go.Proofs.Ytmcbebjipiojoaa
