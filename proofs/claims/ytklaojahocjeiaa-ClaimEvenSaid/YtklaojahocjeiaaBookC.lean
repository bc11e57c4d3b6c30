/-
  What Check and Lines of package book do.
-/
import Derived.Test.YtklaojahocjeiaaBookB
namespace Go.Proofs.Ytklaojahocjeiaa
open Go.RowKit
set_option linter.unusedVariables false

theorem evn_any (v : Value) (ps : List (Int × Int × Int)) (w : World) (hr : ReadsP w v ps) (hm : ps.length ≤ 4096) (hp : ∀ p ∈ ps, ptB p = true) (E : Int) (hE : evnE ps = E) :
    Calls Try.prog 52 #[v] w fun e w' => e = .returned (.int .i64 E) ∧ Grew w w' := hE ▸ checkEven_any v ps w hr hm hp
theorem isPosting_is (a u n : Int) (w : World) (B : Bool) (h : ptB (a, u, n) = B) : Calls Try.prog 51 #[.agg #[.int .i64 a, .int .i64 u, .int .i64 n]] w fun e w' => e = .returned (.bool B) ∧ Grew w w' := h ▸ isPosting_any a u n w

theorem bookCheck_none (a : Option Addr) (cap : Nat) (w : World) : Calls Try.prog 25 #[.slice a 0 cap] w fun e w' => e = .returned (.int .i64 1) ∧ Grew w w' := by
  go_enter Try.func25, Try.ntmps25
  go_wp2
  go_ret
  exact ⟨rfl, Grew.refl _⟩
theorem bookCheck_many (a : Option Addr) (n cap : Nat) (hn : 60 < n) (hb : n ≤ maxLen) (w : World) : Calls Try.prog 25 #[.slice a n cap] w fun e w' => e = .returned (.int .i64 2) ∧ Grew w w' := by
  unfold maxLen at hb
  have h0 : ((n : Int) == 0) = false := beq_eq_false_iff_ne.2 (by omega)
  go_enter Try.func25, Try.ntmps25
  go_wp2
  go_ret
  exact ⟨rfl, Grew.refl _⟩
theorem all_no {ps : List (Int × Int × Int)} {k : Nat} (hk : k < ps.length) (h : ptB (ps.getD k default) = false) : ps.all ptB = false := List.all_eq_false.2 ⟨_, getP_mem hk, by rw [h]; decide⟩

set_option maxHeartbeats 1000000 in
theorem bookCheck_some (b off cap : Nat) (ps : List (Int × Int × Int)) (w : World) (h0 : 0 < ps.length) (hm : ps.length ≤ 60) (hr : ReadsP w (.slice (some ⟨b, off, none⟩) ps.length cap) ps) (hc : ∀ j, j < ps.length → PtAt w b (off + j * 3) (ps.getD j default)) :
    Calls Try.prog 25 #[.slice (some ⟨b, off, none⟩) ps.length cap] w fun e w' => e = .returned (.int .i64 (chkE ps)) ∧ Grew w w' := by
  have hz : ((ps.length : Int) == 0) = false := beq_eq_false_iff_ne.2 (by omega)
  have HE : Hid (chkE ps = if ps.all ptB then evnE ps else 3) := by
    unfold Hid chkE
    rw [if_neg (List.length_pos_iff.1 h0), if_neg (by omega)]; rfl
  have HC := Lib.hid hc; clear hc
  have HR := Lib.hid hr; clear hr
  go_enter Try.func25, Try.ntmps25
  go_wp2
  go_loopw [13] (fun i wr => ∃ k : Nat, k ≤ ps.length ∧ i = .int .i64 k ∧ Hid (∀ j, j < k → ptB (ps.getD j default) = true) ∧ Hid (Grew w wr)) (fun i _ => ps.length - (intOf i).toNat)
  case atStart => exact ⟨0, Nat.zero_le _, rfl, fun j h => absurd h (Nat.not_lt_zero j), Grew.refl _⟩
  case round =>
    obtain ⟨k, hk, rfl, HA, HG⟩ := hrel
    by_cases hlt : k < ps.length
    · obtain ⟨c0, c1, c2⟩ := (HC.out k hlt).grew HG.out
      have HS := Lib.hid (all_no hlt)
      generalize hz : ps.getD k default = p at c0 c1 c2 HS
      have HZ := Lib.hid hz; clear hz
      obtain ⟨A, U, N⟩ := p
      simp only at c0 c1 c2
      cases hb : ptB (A, U, N) with
      | true =>
        have IP := Lib.hid (fun w => isPosting_is A U N w true hb)
        have HB := Lib.hid hb; clear hb
        go_wp2_with (go_at_call 51; (with_reducible refine (IP.out _).mono ?_); rintro e w1 ⟨rfl, g1⟩)
        go_roundw
        case rel => exact ⟨k + 1, by omega, by go_num, fun j hj => by
          rcases (show j < k ∨ j = k by omega) with h | rfl
          · exact HA.out j h
          · rw [HZ.out]; exact HB.out, gtr (HG.out.alloc _ _) g1⟩
        case measure => simp [intOf]; omega
      | false =>
        have IP := Lib.hid (fun w => isPosting_is A U N w false hb)
        have HB := Lib.hid hb; clear hb
        go_wp2_with (go_at_call 51; (with_reducible refine (IP.out _).mono ?_); rintro e w1 ⟨rfl, g1⟩)
        go_ret
        exact ⟨ret_int (by rw [HE.out, HS.out HB.out]; rfl), gtr (HG.out.alloc _ _) g1⟩
    · have hall : ∀ p ∈ ps, ptB p = true := fun p hp => by
        obtain ⟨j, hj, rfl⟩ := List.getElem_of_mem hp
        have := HA.out j (by omega)
        rwa [List.getD_eq_getElem?_getD, List.getElem?_eq_getElem hj] at this
      have CE := Lib.hid (evn_any _ ps wr (HR.out.grew HG.out) (by omega) hall _ rfl)
      have HF : Hid (chkE ps = evnE ps) := by unfold Hid; rw [HE.out, if_pos (List.all_eq_true.2 hall)]
      clear hall
      generalize evnE ps = E at CE HF
      go_wp2_with (go_at_call 52; (with_reducible refine CE.out.mono ?_); rintro e w1 ⟨rfl, g1⟩)
      go_ret
      exact ⟨ret_int HF.out.symm, gtr HG.out g1⟩

theorem bookCheck_any (v : Value) (ps : List (Int × Int × Int)) (w : World) (hr : ReadsP w v ps) :
    Calls Try.prog 25 #[v] w fun e w' => e = .returned (.int .i64 (chkE ps)) ∧ Grew w w' := by
  have hl := hr.len
  have hr0 := hr
  rcases hr.cell with ⟨rfl, a, cap, rfl⟩ | ⟨h0, b, off, cap, rfl, hc⟩
  · exact bookCheck_none a cap w
  · by_cases hm : 60 < ps.length
    · have e : chkE ps = 2 := by unfold chkE; rw [if_neg (List.length_pos_iff.1 h0), if_pos hm]
      rw [e]
      exact bookCheck_many _ _ cap hm hl w
    · exact bookCheck_some b off cap ps w h0 (by omega) hr0 hc

theorem lines_many (a : Option Addr) (n cap : Nat) (hn : 400 < n) (hb : n ≤ maxLen) (w : World) : Calls Try.prog 45 #[.slice a n cap] w fun e w' => e = .returned (.int .i64 2) ∧ Grew w w' := by
  unfold maxLen at hb
  go_enter Try.func45, Try.ntmps45
  go_wp2
  go_ret
  exact ⟨rfl, Grew.refl _⟩
theorem lines_none (a : Option Addr) (cap : Nat) (w : World) : Calls Try.prog 45 #[.slice a 0 cap] w fun e w' => e = .returned (.int .i64 0) ∧ Grew w w' := by
  have CE := Lib.hid (fun w => checkEven_none a cap w)
  go_enter Try.func45, Try.ntmps45
  go_wp2
  go_loop [11] (fun i => i = .int .i64 0) (fun _ => 0)
  case atStart => exact rfl
  case round =>
    obtain rfl := hrel
    go_wp2_with (go_at_call 52; (with_reducible refine (CE.out _).mono ?_); rintro e w1 ⟨rfl, g1⟩)
    go_ret
    exact ⟨rfl, g1⟩

theorem drop_getD {ps : List (Int × Int × Int)} {k : Nat} (hk : k < ps.length) : ps.drop k = ps.getD k default :: ps.drop (k + 1) := by
  rw [List.drop_eq_getElem_cons hk, List.getD_eq_getElem?_getD, List.getElem?_eq_getElem hk]; rfl
theorem ord_ok {c : Int} {p : Int × Int × Int} {l : List (Int × Int × Int)} (h : ptB p = true) (h2 : c < plc p) : ordE c (p :: l) = ordE (plc p) l := by rw [ordE, if_pos h, if_neg (by omega)]
theorem ord_st {c : Int} {p : Int × Int × Int} {l : List (Int × Int × Int)} (h : ptB p = true) (h2 : plc p ≤ c) : ordE c (p :: l) = 4 := by rw [ordE, if_pos h, if_pos h2]
theorem ord_no {c : Int} {p : Int × Int × Int} {l : List (Int × Int × Int)} (h : ptB p = false) : ordE c (p :: l) = 3 := by rw [ordE, h]; rfl

set_option maxHeartbeats 2000000 in
theorem lines_some (b off cap : Nat) (ps : List (Int × Int × Int)) (w : World) (hm : ps.length ≤ 400) (hr : ReadsP w (.slice (some ⟨b, off, none⟩) ps.length cap) ps) (hc : ∀ j, j < ps.length → PtAt w b (off + j * 3) (ps.getD j default)) :
    Calls Try.prog 45 #[.slice (some ⟨b, off, none⟩) ps.length cap] w fun e w' => e = .returned (.int .i64 (linE ps)) ∧ Grew w w' := by
  have HE : Hid (linE ps = if ordE (-1) ps = 0 then (evnE ps) else ordE (-1) ps) := by
    unfold Hid linE
    rw [if_neg (by omega)]; rfl
  have HC := Lib.hid hc; clear hc
  have HR := Lib.hid hr; clear hr
  go_enter Try.func45, Try.ntmps45
  go_wp2
  go_loopw [3, 11] (fun t i wr => ∃ (k : Nat) (c : Int), k ≤ ps.length ∧ i = .int .i64 k ∧ t = .int .i64 c ∧ -1 ≤ c ∧ c ≤ 2120 ∧ Hid (ordE (-1) ps = ordE c (ps.drop k)) ∧ Hid (Grew w wr)) (fun _ i _ => ps.length - (intOf i).toNat)
  case atStart => exact ⟨0, -1, Nat.zero_le _, rfl, rfl, by omega, by omega, rfl, Grew.refl _⟩
  case round =>
    obtain ⟨k, c, hk, rfl, rfl, hc0, hc1, HA, HG⟩ := hrel
    by_cases hlt : k < ps.length
    · obtain ⟨c0, c1, c2⟩ := (HC.out k hlt).grew HG.out
      have hd := drop_getD hlt
      generalize ps.getD k default = p at c0 c1 c2 hd
      have HD : Hid (ordE (-1) ps = ordE c (p :: ps.drop (k + 1))) := by unfold Hid; rw [HA.out, hd]
      clear hd
      obtain ⟨A, U, N⟩ := p
      simp only at c0 c1 c2
      cases hb : ptB (A, U, N) with
      | true =>
        have hq := pt_t hb
        simp only at hq
        obtain ⟨q1, q2, q3, q4, -⟩ := hq
        have IP := Lib.hid (fun w => isPosting_is A U N w true hb)
        have PL := Lib.hid (fun w => place_any A U N w q1 q2 q3 q4)
        have P0 : Hid ((wr.alloc (.cells #[.int .i64 A, .int .i64 U, .int .i64 N] 53)).cell? ⟨wr.heap.size, 0, none⟩ = some (.int .i64 A)) := (Blk.made wr _ _).cell 0
        have P1 : Hid ((wr.alloc (.cells #[.int .i64 A, .int .i64 U, .int .i64 N] 53)).cell? ⟨wr.heap.size, 1, none⟩ = some (.int .i64 U)) := (Blk.made wr _ _).cell 1
        have P2 : Hid ((wr.alloc (.cells #[.int .i64 A, .int .i64 U, .int .i64 N] 53)).cell? ⟨wr.heap.size, 2, none⟩ = some (.int .i64 N)) := (Blk.made wr _ _).cell 2
        by_cases hle : A * 21 + U ≤ c
        · have HX := Lib.hid (ord_st (l := ps.drop (k + 1)) hb hle)
          clear hb
          go_wp2_with (first
            | (go_at_call 51; (with_reducible refine (IP.out _).mono ?_); rintro e w1 ⟨rfl, g1⟩; have d0 := g1.cell (cell_in P0.out) P0.out; have d1 := g1.cell (cell_in P1.out) P1.out; have d2 := g1.cell (cell_in P2.out) P2.out)
            | (go_at_call 61; (with_reducible refine (PL.out _).mono ?_); rintro e w2 ⟨rfl, g2⟩))
          go_ret
          exact ⟨ret_int (by rw [HE.out, HD.out, HX.out]; rfl), gtr (gtr (HG.out.alloc _ _) g1) g2⟩
        · have hgt : c < A * 21 + U := by omega
          have HX := Lib.hid (ord_ok (l := ps.drop (k + 1)) hb hgt)
          clear hb
          go_wp2_with (first
            | (go_at_call 51; (with_reducible refine (IP.out _).mono ?_); rintro e w1 ⟨rfl, g1⟩; have d0 := g1.cell (cell_in P0.out) P0.out; have d1 := g1.cell (cell_in P1.out) P1.out; have d2 := g1.cell (cell_in P2.out) P2.out; have G1 := Lib.hid (gtr (HG.out.alloc #[.int .i64 A, .int .i64 U, .int .i64 N] 53) g1))
            | (go_at_call 61; (with_reducible refine (PL.out w1).mono ?_); rintro e w2 ⟨rfl, g2⟩; have e0 := g2.cell (cell_in d0) d0; have e1 := g2.cell (cell_in d1) d1; have e2 := g2.cell (cell_in d2) d2)
            | (go_at_call 61; (with_reducible refine (PL.out w2).mono ?_); rintro e w3 ⟨rfl, g3⟩))
          go_roundw
          case rel => exact ⟨k + 1, A * 21 + U, by omega, by go_num, rfl, by omega, by omega, by unfold Hid; rw [HD.out, HX.out]; rfl, gtr (gtr G1.out g2) g3⟩
          case measure => simp [intOf]; omega
      | false =>
        have IP := Lib.hid (fun w => isPosting_is A U N w false hb)
        have HX := Lib.hid (ord_no (c := c) (l := ps.drop (k + 1)) hb)
        clear hb
        go_wp2_with (go_at_call 51; (with_reducible refine (IP.out _).mono ?_); rintro e w1 ⟨rfl, g1⟩)
        go_ret
        exact ⟨ret_int (by rw [HE.out, HD.out, HX.out]; rfl), gtr (HG.out.alloc _ _) g1⟩
    · have hd : ps.drop k = [] := List.drop_eq_nil_of_le (by omega)
      have h0 : ordE (-1) ps = 0 := by rw [HA.out, hd]; rfl
      have CE := Lib.hid (evn_any _ ps wr (HR.out.grew HG.out) (by omega) (strict_pt (ord_0.1 h0)) _ rfl)
      have HF : Hid (linE ps = evnE ps) := by unfold Hid; rw [HE.out, if_pos h0]
      clear h0 hd
      generalize evnE ps = E at CE HF
      go_wp2_with (go_at_call 52; (with_reducible refine CE.out.mono ?_); rintro e w1 ⟨rfl, g1⟩)
      go_ret
      exact ⟨ret_int HF.out.symm, gtr HG.out g1⟩

theorem lines_any (v : Value) (ps : List (Int × Int × Int)) (w : World) (hr : ReadsP w v ps) :
    Calls Try.prog 45 #[v] w fun e w' => e = .returned (.int .i64 (linE ps)) ∧ Grew w w' := by
  have hl := hr.len
  have hr0 := hr
  rcases hr.cell with ⟨rfl, a, cap, rfl⟩ | ⟨h0, b, off, cap, rfl, hc⟩
  · exact lines_none a cap w
  · by_cases hm : 400 < ps.length
    · have e : linE ps = 2 := by unfold linE; rw [if_pos hm]
      rw [e]
      exact lines_many _ _ cap hm hl w
    · exact lines_some b off cap ps w (by omega) hr0 hc

end Go.Proofs.Ytklaojahocjeiaa
