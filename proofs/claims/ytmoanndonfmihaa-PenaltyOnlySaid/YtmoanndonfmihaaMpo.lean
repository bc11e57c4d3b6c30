/-
  Merged: LawPO.
-/
import Derived.Test.YtmoanndonfmihaaMgc
import Derived.BigQuiet
-- LawPO
namespace Go.Proofs.Ytmoanndonfmihaa
open Go.RowKit
set_option linter.unusedVariables false

/-- whether a fail is late -/
def ltB (W : Int) (hs : List Int) (ts : List (List Int)) (q : Int) (l : List Int) : Bool := decide (¬ (stL W hs (tlOf ts l) l q = 0 ∨ stL W hs (tlOf ts l) l q = 5))
def ltN (W : Int) (hs : List Int) (ts : List (List Int)) (q : Int) (fs : List (List Int)) (k : Nat) : Nat := ((fs.take k).filter (ltB W hs ts q)).length
theorem ltN_s {W : Int} {hs : List Int} {ts : List (List Int)} {q : Int} {fs : List (List Int)} {k : Nat} (hk : k < fs.length) : ltN W hs ts q fs (k + 1) = ltN W hs ts q fs k + (if ltB W hs ts q (fs.getD k []) = true then 1 else 0) := by
  unfold ltN
  rw [List.take_succ_eq_append_getElem hk, List.filter_append, List.length_append, List.getD_eq_getElem?_getD, List.getElem?_eq_getElem hk]
  simp only [Option.getD_some]
  congr 1
  by_cases h : ltB W hs ts q fs[k] = true
  · rw [if_pos h]; simp [h]
  · rw [if_neg h]; simp [h]
theorem ltN_bd (W : Int) (hs : List Int) (ts : List (List Int)) (q : Int) (fs : List (List Int)) (k : Nat) : ltN W hs ts q fs k ≤ k := by
  unfold ltN
  have := List.length_filter_le (ltB W hs ts q) (fs.take k)
  rw [List.length_take] at this
  omega
theorem dueL_late (W : Int) (hs : List Int) (ts : List (List Int)) (ps : List Int) (q : Int) : ∀ fs : List (List Int), (dueL W hs ts ps q fs).length ≤ (fs.filter (ltB W hs ts q)).length
  | [] => Nat.le_refl _
  | l :: fs => by
    have ih := dueL_late W hs ts ps q fs
    rw [dueL]
    by_cases hc : 0 < csL W hs (tlOf ts l) l (prOf ps l) q
    · rw [if_pos hc]
      have hl : ltB W hs ts q l = true := decide_eq_true fun e => by
        unfold csL at hc
        rw [if_pos e] at hc
        omega
      rw [List.filter_cons_of_pos hl]
      simp only [List.length_cons]
      omega
    · rw [if_neg hc]
      refine Nat.le_trans ih ?_
      rw [List.filter_cons]
      split
      · simp
      · exact Nat.le_refl _
theorem dueL_from {W : Int} {hs : List Int} {ts : List (List Int)} {ps : List Int} {q : Int} : ∀ {fs : List (List Int)}, ∀ d ∈ dueL W hs ts ps q fs, 1 ≤ d.2.2 ∧ fs.any (fun l => l.getD 1 0 == d.1 && l.getD 2 0 == d.2.1) = true
  | [], d, hd => absurd hd (by simp [dueL])
  | l :: fs, d, hd => by
    rw [dueL] at hd
    rw [List.any_cons]
    split at hd
    · next hc =>
      rcases List.mem_cons.1 hd with rfl | hd
      · exact ⟨by simp only; omega, by simp⟩
      · obtain ⟨a, b⟩ := dueL_from d hd
        exact ⟨a, by rw [b, Bool.or_true]⟩
    · obtain ⟨a, b⟩ := dueL_from d hd
      exact ⟨a, by rw [b, Bool.or_true]⟩
theorem pd_all {W : Int} {hs : List Int} {ts : List (List Int)} {q : Int} : ∀ {fs : List (List Int)}, pdE W hs ts q fs = 0 → ∀ l ∈ fs, lkL W hs (tlOf ts l) l q = 0
  | [], _, l, hl => absurd hl (by simp)
  | m :: fs, h, l, hl => by
    obtain ⟨a, b⟩ := orE_0 h
    rcases List.mem_cons.1 hl with rfl | hl
    · exact a
    · exact pd_all b l hl
theorem late_pos {W : Int} {hs : List Int} {ts : List (List Int)} {q : Int} {l : List Int} (h : lkL W hs (tlOf ts l) l q = 0) (hl : ltB W hs ts q l = true) : 0 < q := by
  have hl := of_decide_eq_true hl
  have hf := lkL_fl h
  unfold failEL at hf
  obtain ⟨g1, -, -, -⟩ := fail_0 hf
  obtain ⟨hd, -⟩ := fdue_t g1
  rcases Int.lt_or_le 0 q with g | g
  · exact g
  · exfalso
    refine hl ?_
    have e : stL W hs (tlOf ts l) l q = stgV (opL l) (l.getD 5 0) _ _ _ q := if_pos h
    rw [e]
    unfold stgV
    by_cases ho : opL l = 0
    · rw [if_pos ho]; exact .inr rfl
    · rw [if_neg ho, if_pos (by omega)]; exact .inl rfl
/-- whether one of the first k fails is from that one to this one -/
def knB (fs : List (List Int)) (F T : Int) (k : Nat) : Bool := (fs.take k).any fun l => l.getD 1 0 == F && l.getD 2 0 == T
theorem knB_s {fs : List (List Int)} {F T : Int} {k : Nat} (hk : k < fs.length) : knB fs F T (k + 1) = (knB fs F T k || ((fs.getD k []).getD 1 0 == F && (fs.getD k []).getD 2 0 == T)) := by
  have e : fs.getD k [] = fs[k] := by rw [List.getD_eq_getElem?_getD, List.getElem?_eq_getElem hk]; rfl
  unfold knB
  rw [e, List.take_succ_eq_append_getElem hk, List.any_append]
  simp
theorem only_no (W q : Int) (v tv lv pv : Value) (w : World) (E : Int) (ds : List (Int × Int × Int)) (hE : E ≠ 0) (D : ∀ w', Kpt w w' → Calls Try.prog 8 #[.agg #[.int .i64 W, v], tv, lv, pv, .int .i64 q] w' fun e w'' => ∃ dv, e = .returned (.tuple #[dv, .int .i64 E]) ∧ Kpt w' w'') :
    Calls Try.prog 4 #[calV W v, tv, lv, pv, .int .i64 q] w fun e w' => e = .returned (.bool true) ∧ Kpt w w' := by
  have z : (E != 0) = true := bne_iff_ne.2 hE
  have HD := Lib.hid D
  have KA : Hid (Kpt w (w.alloc (.cells #[.int .i64 W, v] 24))) := (Kpt.refl w).alloc _
  clear D hE
  unfold calV
  go_enter Try.func4, Try.ntmps4
  go_wp2_with (first
    | (go_at_call 8; (with_reducible refine (HD.out _ KA.out).mono ?_); rintro e w1 ⟨dv, rfl, k1⟩; have K1 := Lib.hid (ktr KA.out k1); clear k1)
    | (go_at_call 9; (with_reducible refine (penaltyBegun _).mono ?_); rintro e w2 ⟨rfl, k1⟩; have K2 := Lib.hid (ktr K1.out k1); clear k1)
    | (go_at_call 11; (with_reducible refine (ageBegun _).mono ?_); rintro e w3 ⟨rfl, k1⟩; have K3 := Lib.hid (ktr K2.out k1); clear k1))
  go_ret
  exact ⟨rfl, K3.out⟩
def OnlyFacts (W : Int) (hs : List Int) (ts fs : List (List Int)) (q : Int) (ds : List (Int × Int × Int)) : Prop :=
  (∀ l ∈ fs, failEL l = 0 ∧ lkL W hs (tlOf ts l) l q = 0) ∧ ts.length = 6 ∧ fs.length ≤ 60 ∧ ds.length ≤ ltN W hs ts q fs fs.length ∧ (0 < q ∨ ltN W hs ts q fs fs.length = 0) ∧ (∀ d ∈ ds, 1 ≤ d.2.2 ∧ knB fs d.1 d.2.1 fs.length = true)
theorem only_facts {W : Int} {hs : List Int} {ts fs : List (List Int)} {ps : List Int} {q : Int} (h : dayE W hs ts fs ps q = 0) : OnlyFacts W hs ts fs q (dayD W hs ts fs ps q) := by
  obtain ⟨h1, h2⟩ := orE_0 h
  obtain ⟨q1, q2⟩ := orE_0 h1
  obtain ⟨q3, q4⟩ := orE_0 q2
  obtain ⟨q5, q6⟩ := orE_0 q4
  have hd : dayD W hs ts fs ps q = dueL W hs ts ps q fs := if_pos h
  obtain ⟨c1, c2⟩ := checksE_0 q5
  have lk := pd_all h2
  have tk : fs.take fs.length = fs := List.take_of_length_le (Nat.le_refl _)
  refine ⟨fun l hl => ⟨c2 l hl, lk l hl⟩, clsE_0 q3, c1, ?_, ?_, ?_⟩
  · rw [hd]; unfold ltN; rw [tk]; exact dueL_late W hs ts ps q fs
  · unfold ltN
    rw [tk]
    by_cases hq : 0 < q
    · exact .inl hq
    · right
      rw [List.length_eq_zero_iff, List.filter_eq_nil_iff]
      intro l hl hb
      exact hq (late_pos (lk l hl) hb)
  · rw [hd]
    intro d hd'
    unfold knB
    rw [tk]
    exact dueL_from d hd'

set_option maxRecDepth 100000 in
set_option maxHeartbeats 8000000 in
theorem only_ok (W q : Int) (v : Value) (g2 off2 ct : Nat) (a : Option Addr) (cap : Nat) (pv : Value) (hs : List Int) (ts fs : List (List Int)) (w : World) (ds : List (Int × Int × Int)) (hr : Reads w v hs) (hf : Fits hs)
    (ht : ∀ k, k < ts.length → ∀ j, j < 4 → w.cell? ⟨g2, off2 + k * 4 + j, none⟩ = some (.int .i64 ((ts.getD k []).getD j 0)))
    (hl : ∀ k, k < fs.length → ∃ g off, a = some ⟨g, off, none⟩ ∧ FlAt w g (off + k * 10) (fs.getD k []))
    (OF : OnlyFacts W hs ts fs q ds) (ip : InP ds)
    (D : ∀ w', Kpt w w' → Calls Try.prog 8 #[.agg #[.int .i64 W, v], .slice (some ⟨g2, off2, none⟩) ts.length ct, .slice a fs.length cap, pv, .int .i64 q] w' fun e w'' => ∃ dv, e = .returned (.tuple #[dv, .int .i64 0]) ∧ ReadsP w'' dv ds ∧ Kpt w' w'') :
    Calls Try.prog 4 #[calV W v, .slice (some ⟨g2, off2, none⟩) ts.length ct, .slice a fs.length cap, pv, .int .i64 q] w fun e w' => e = .returned (.bool true) ∧ Kpt w w' := by
  obtain ⟨o1, o2, o3, o4, o5, o6⟩ := OF
  have HD := Lib.hid D
  have HT := Lib.hid ht
  have HL := Lib.hid hl
  have H1 := Lib.hid (fun k (hk : k < fs.length) => o1 _ (getF_mem hk))
  have HS := Lib.hid (fun k (hk : k < fs.length) => ltN_s (W := W) (hs := hs) (ts := ts) (q := q) hk)
  have HKS := Lib.hid (fun F T k (hk : k < fs.length) => knB_s (F := F) (T := T) hk)
  have HKN := Lib.hid (fun j (hj : j < ds.length) => o6 _ (getP_mem hj))
  have LB := Lib.hid (fun k => ltN_bd W hs ts q fs k)
  have SG := Lib.hid (fun (tl l : List Int) w' (k : Kpt w w') => stage_any W (tl.getD 0 0) (tl.getD 1 0) (tl.getD 2 0) (tl.getD 3 0) (l.getD 0 0) (l.getD 1 0) (l.getD 2 0) (l.getD 3 0) (l.getD 4 0) (l.getD 5 0) (l.getD 6 0) (l.getD 7 0) (l.getD 8 0) (l.getD 9 0) q v hs w' (hr.kpt k) hf)
  have KA : Hid (Kpt w (w.alloc (.cells #[.int .i64 W, v] 24))) := (Kpt.refl w).alloc _
  have BA : Hid (Blk (w.alloc (.cells #[.int .i64 W, v] 24)) w.heap.size #[.int .i64 W, v] 24) := Blk.made _ _ _
  have T6 := Lib.hid o2
  have O4 := Lib.hid o4
  have O5 := Lib.hid o5
  have O3 := Lib.hid o3
  obtain ⟨n, hn⟩ : ∃ n, n = fs.length := ⟨_, rfl⟩
  obtain ⟨nt, hnt⟩ : ∃ nt, nt = ts.length := ⟨_, rfl⟩
  rw [← hn] at HL H1 HS HKS HKN HD O4 O5 O3 o3 ⊢
  rw [← hnt] at HT T6 HD ⊢
  unfold calV at SG ⊢
  clear D ht hl o1 o2 o4 o5 o6 hr hf hn hnt
  go_enter Try.func4, Try.ntmps4
  go_wp2_with (first
    | (go_at_call 8; (with_reducible refine (HD.out _ KA.out).mono ?_); rintro e w1 ⟨dv, rfl, dr, k1⟩; have K1 := Lib.hid (ktr KA.out k1); have B1 := Lib.hid (BA.out.kpt k1); have R1 := Lib.hid dr; clear k1 dr)
    | (go_at_call 9; (with_reducible refine (penaltyBegun _).mono ?_); rintro e w2 ⟨rfl, k1⟩; have K2 := Lib.hid (ktr K1.out k1); have B2 := Lib.hid (B1.out.kpt k1); have R2 := Lib.hid (R1.out.kpt k1); clear k1)
    | (go_at_call 11; (with_reducible refine (ageBegun _).mono ?_); rintro e w3 ⟨rfl, k1⟩; have K3 := Lib.hid (ktr K2.out k1); have B3 := Lib.hid (B2.out.kpt k1); have R3 := Lib.hid (R2.out.kpt k1); clear k1))
  go_loopw [13, 14] (fun ss ii wr => ∃ k : Nat, k ≤ n ∧ ii = .int .i64 (k : Int) ∧ ss = .int .i64 ((ltN W hs ts q fs k : Nat) : Int) ∧ Hid (Kpt w3 wr)) (fun _ ii _ => n - (intOf ii).toNat)
  case atStart => exact ⟨0, Nat.zero_le _, rfl, rfl, Kpt.refl w3⟩
  case round =>
    obtain ⟨k, hk, rfl, rfl, HK⟩ := hrel
    by_cases hlt : k < n
    · obtain ⟨g, off, rfl, hfl⟩ := HL.out k hlt
      obtain ⟨e1, e2⟩ := H1.out k hlt
      have fc := (fl_cls e1).1
      have hss := HS.out k hlt
      have KR := Lib.hid (ktr K3.out HK.out)
      have tc := HT.out ((fs.getD k []).getD 3 0).toNat (by have := T6.out; omega)
      have sg := fun w' kk => SG.out (tlOf ts (fs.getD k [])) (fs.getD k []) w' kk
      have e3 : lkE W hs ((tlOf ts (fs.getD k [])).getD 0 0) ((tlOf ts (fs.getD k [])).getD 1 0) ((tlOf ts (fs.getD k [])).getD 2 0) ((tlOf ts (fs.getD k [])).getD 3 0) ((fs.getD k []).getD 0 0) ((fs.getD k []).getD 1 0) ((fs.getD k []).getD 2 0) ((fs.getD k []).getD 3 0) ((fs.getD k []).getD 4 0) ((fs.getD k []).getD 5 0) ((fs.getD k []).getD 6 0) ((fs.getD k []).getD 7 0) ((fs.getD k []).getD 8 0) ((fs.getD k []).getD 9 0) q = 0 := e2
      rw [e3] at sg
      have lb : ltB W hs ts q (fs.getD k []) = decide (¬ (stL W hs (tlOf ts (fs.getD k [])) (fs.getD k []) q = 0 ∨ stL W hs (tlOf ts (fs.getD k [])) (fs.getD k []) q = 5)) := rfl
      have sl : stL W hs (tlOf ts (fs.getD k [])) (fs.getD k []) q = stgR W hs ((tlOf ts (fs.getD k [])).getD 0 0) ((tlOf ts (fs.getD k [])).getD 1 0) ((tlOf ts (fs.getD k [])).getD 2 0) ((tlOf ts (fs.getD k [])).getD 3 0) ((fs.getD k []).getD 0 0) ((fs.getD k []).getD 1 0) ((fs.getD k []).getD 2 0) ((fs.getD k []).getD 3 0) ((fs.getD k []).getD 4 0) ((fs.getD k []).getD 5 0) ((fs.getD k []).getD 6 0) ((fs.getD k []).getD 7 0) ((fs.getD k []).getD 8 0) ((fs.getD k []).getD 9 0) q := rfl
      rw [sl] at lb
      rw [lb] at hss
      have t0 := cell_k (q := wr) (a := ⟨g2, off2 + ((fs.getD k []).getD 3 0).toNat * 4, none⟩) (v := .int .i64 ((tlOf ts (fs.getD k [])).getD 0 0)) (KR.out.cell (tc 0 (by omega)))
      have t1 := cell_k (q := wr) (a := ⟨g2, off2 + ((fs.getD k []).getD 3 0).toNat * 4 + 1, none⟩) (v := .int .i64 ((tlOf ts (fs.getD k [])).getD 1 0)) (KR.out.cell (tc 1 (by omega)))
      have t2 := cell_k (q := wr) (a := ⟨g2, off2 + ((fs.getD k []).getD 3 0).toNat * 4 + 2, none⟩) (v := .int .i64 ((tlOf ts (fs.getD k [])).getD 2 0)) (KR.out.cell (tc 2 (by omega)))
      have t3 := cell_k (q := wr) (a := ⟨g2, off2 + ((fs.getD k []).getD 3 0).toNat * 4 + 3, none⟩) (v := .int .i64 ((tlOf ts (fs.getD k [])).getD 3 0)) (KR.out.cell (tc 3 (by omega)))
      have b0 := cell_k (q := wr) (a := ⟨w.heap.size, 0, none⟩) (v := .int .i64 W) ((B3.out.kpt HK.out).cell 0)
      have b1 := cell_k (q := wr) (a := ⟨w.heap.size, 1, none⟩) (v := v) ((B3.out.kpt HK.out).cell 1)
      have d0 := cell_k (q := wr) (a := ⟨g, off + k * 10, none⟩) (KR.out.cell (hfl 0 (by omega)))
      have d1 := cell_k (q := wr) (a := ⟨g, off + k * 10 + 1, none⟩) (KR.out.cell (hfl 1 (by omega)))
      have d2 := cell_k (q := wr) (a := ⟨g, off + k * 10 + 2, none⟩) (KR.out.cell (hfl 2 (by omega)))
      have d3 := cell_k (q := wr) (a := ⟨g, off + k * 10 + 3, none⟩) (KR.out.cell (hfl 3 (by omega)))
      have d4 := cell_k (q := wr) (a := ⟨g, off + k * 10 + 4, none⟩) (KR.out.cell (hfl 4 (by omega)))
      have d5 := cell_k (q := wr) (a := ⟨g, off + k * 10 + 5, none⟩) (KR.out.cell (hfl 5 (by omega)))
      have d6 := cell_k (q := wr) (a := ⟨g, off + k * 10 + 6, none⟩) (KR.out.cell (hfl 6 (by omega)))
      have d7 := cell_k (q := wr) (a := ⟨g, off + k * 10 + 7, none⟩) (KR.out.cell (hfl 7 (by omega)))
      have d8 := cell_k (q := wr) (a := ⟨g, off + k * 10 + 8, none⟩) (KR.out.cell (hfl 8 (by omega)))
      have d9 := cell_k (q := wr) (a := ⟨g, off + k * 10 + 9, none⟩) (KR.out.cell (hfl 9 (by omega)))
      generalize stgR W hs ((tlOf ts (fs.getD k [])).getD 0 0) ((tlOf ts (fs.getD k [])).getD 1 0) ((tlOf ts (fs.getD k [])).getD 2 0) ((tlOf ts (fs.getD k [])).getD 3 0) ((fs.getD k []).getD 0 0) ((fs.getD k []).getD 1 0) ((fs.getD k []).getD 2 0) ((fs.getD k []).getD 3 0) ((fs.getD k []).getD 4 0) ((fs.getD k []).getD 5 0) ((fs.getD k []).getD 6 0) ((fs.getD k []).getD 7 0) ((fs.getD k []).getD 8 0) ((fs.getD k []).getD 9 0) q = st at *
      generalize (tlOf ts (fs.getD k [])).getD 0 0 = te at *
      generalize (tlOf ts (fs.getD k [])).getD 1 0 = tb at *
      generalize (tlOf ts (fs.getD k [])).getD 2 0 = td at *
      generalize (tlOf ts (fs.getD k [])).getD 3 0 = tr at *
      generalize (fs.getD k []).getD 0 0 = i at *
      generalize (fs.getD k []).getD 1 0 = f at *
      generalize (fs.getD k []).getD 2 0 = t at *
      generalize (fs.getD k []).getD 3 0 = c at *
      generalize (fs.getD k []).getD 4 0 = p at *
      generalize (fs.getD k []).getD 5 0 = dd0 at *
      generalize (fs.getD k []).getD 6 0 = u at *
      generalize (fs.getD k []).getD 7 0 = x at *
      generalize (fs.getD k []).getD 8 0 = b at *
      generalize (fs.getD k []).getD 9 0 = y at *
      have HSS := Lib.hid hss
      have CK := Lib.hid (fun (p' : KptTo wr) => sg p'.w (ktr KR.out p'.h))
      have n1 : 0 ≤ c := fc.1
      have n2 : c < (nt : Int) := by have := T6.out; omega
      have kb : ltN W hs ts q fs k ≤ k := LB.out k
      have k60 : k ≤ 60 := by omega
      clear sg hss lb sl e1 e2 e3 fc tc hfl
      go_upto_region 10 with fail
      have mixed : Try.prog.follows .mixedOrders = true := by kernel_rfl
      refine quiet_k (q := wr) mixed (by kernel_rfl) ?_
      repeat (quiet_step (first | (go_at_call 12; with_reducible refine calls_k (CK.out _))))
      refine wpQuiet_nil ?_
      intro w8 hw1
      obtain ⟨⟨wz, kz⟩, hw2⟩ := hw1
      have hw3 : w8 = wz := hw2
      clear hw2
      subst hw3
      have KZ := Lib.hid (ktr HK.out kz)
      by_cases s0 : st = 0
      · have z0 : (st == 0) = true := beq_iff_eq.2 s0
        have HN : Hid (ltN W hs ts q fs (k + 1) = ltN W hs ts q fs k) := by
          have := HSS.out
          rw [if_neg (by simp [s0])] at this
          exact this
        clear s0 t0 t1 t2 t3 b0 b1 d0 d1 d2 d3 d4 d5 d6 d7 d8 d9
        go_wp2
        go_roundw
        case rel => exact ⟨k + 1, by omega, by go_num, by rw [HN.out], KZ.out⟩
        case measure => simp [intOf]; omega
      · have z0 : (st == 0) = false := beq_eq_false_iff_ne.2 s0
        by_cases s5 : st = 5
        · have z5 : (st == 5) = true := beq_iff_eq.2 s5
          have HN : Hid (ltN W hs ts q fs (k + 1) = ltN W hs ts q fs k) := by
            have := HSS.out
            rw [if_neg (by simp [s5])] at this
            exact this
          clear s0 s5 t0 t1 t2 t3 b0 b1 d0 d1 d2 d3 d4 d5 d6 d7 d8 d9
          go_wp2
          go_roundw
          case rel => exact ⟨k + 1, by omega, by go_num, by rw [HN.out], KZ.out⟩
          case measure => simp [intOf]; omega
        · have z5 : (st == 5) = false := beq_eq_false_iff_ne.2 s5
          have HN : Hid (ltN W hs ts q fs (k + 1) = ltN W hs ts q fs k + 1) := by
            have := HSS.out
            rw [if_pos (by simp [s0, s5])] at this
            exact this
          have wn : IntKind.i64.wrap (((ltN W hs ts q fs k : Nat) : Int) + 1) = ((ltN W hs ts q fs k : Nat) : Int) + 1 := IntWalk.i64_in _ (by omega)
          clear s0 s5 t0 t1 t2 t3 b0 b1 d0 d1 d2 d3 d4 d5 d6 d7 d8 d9
          go_wp2
          go_roundw
          case rel => exact ⟨k + 1, by omega, by go_num, by rw [HN.out]; exact congrArg (Value.int .i64) (by omega), KZ.out⟩
          case measure => simp [intOf]; omega
    · obtain rfl : k = n := by omega
      rename World => w4
      have KR := Lib.hid (ktr K3.out HK.out)
      have RD := Lib.hid (R3.out.kpt HK.out)
      have lb := LB.out k
      obtain ⟨N, hN⟩ : ∃ N : Nat, N = ltN W hs ts q fs k := ⟨_, rfl⟩
      rw [← hN] at O4 O5 lb ⊢
      have NN : N ≤ 60 := by have := O3.out; omega
      obtain ⟨da, dc, rfl⟩ : ∃ da dc, dv = .slice da ds.length dc := by
        obtain ⟨da, dc, e, -⟩ := RD.out; exact ⟨da, dc, e⟩
      obtain ⟨m, hm⟩ : ∃ m, m = ds.length := ⟨_, rfl⟩
      have HM := Lib.hid hm
      rw [← hm] at O4 HKN
      have M60 : m ≤ 60 := by have := O4.out; omega
      have HRD : Hid (∀ j, j < m → ∃ gd od, da = some ⟨gd, od, none⟩ ∧ PtAt w4 gd (od + j * 3) (ds.getD j default)) := fun j hj => by
        obtain ⟨a', c', e, -, -, -, hq⟩ := RD.out
        injection e with e1
        obtain ⟨gd, od, e', h⟩ := hq j (by rw [← hm]; exact hj)
        exact ⟨gd, od, by rw [e1, e'], h⟩
      have HLF : Hid (∀ x, x < k → ∃ g off, a = some ⟨g, off, none⟩ ∧ FlAt w4 g (off + x * 10) (fs.getD x [])) := fun x hx => by
        obtain ⟨g, off, e, h⟩ := HL.out x hx
        exact ⟨g, off, e, h.kpt KR.out⟩
      have z1 : decide ((m : Int) ≤ (N : Int)) = true := decide_eq_true (by have := O4.out; omega)
      have Z1 := Lib.hid z1
      rw [← hm]
      clear hN hm z1 HK R1 R2 R3 RD lb
      go_wp2
      go_loopw [17] (fun ii ws => ∃ j : Nat, j ≤ m ∧ ii = .int .i64 (j : Int) ∧ Hid (Kpt w4 ws)) (fun ii _ => m - (intOf ii).toNat)
      case atStart => exact ⟨0, Nat.zero_le _, rfl, Kpt.refl w4⟩
      case round =>
        obtain ⟨j, hj, rfl, HK⟩ := hrel
        by_cases hjm : j < m
        · obtain ⟨gd, od, rfl, hpt⟩ := HRD.out j hjm
          obtain ⟨o6, o7⟩ := HKN.out j hjm
          have hk0 := fun F T x hx => HKS.out F T x hx
          generalize ds.getD j default = dd at hpt o6 o7
          obtain ⟨F, T, A⟩ := dd
          simp only at o6 o7
          have HPT := Lib.hid hpt
          have HKS2 := Lib.hid (fun x (hx : x < k) => HKS.out F T x hx)
          have O7 := Lib.hid o7
          have a1 : ¬ A < 1 := by omega
          have a2 : decide (A < 1) = false := decide_eq_false a1
          have j60 : j ≤ 60 := by omega
          have k60 : k ≤ 60 := O3.out
          clear hpt o7 hk0
          rename World => w5
          go_wp2
          go_loopw [18, 19] (fun kn ii wr => ∃ x : Nat, x ≤ k ∧ ii = .int .i64 (x : Int) ∧ kn = .bool (knB fs F T x) ∧ Hid (Kpt w5 wr)) (fun _ ii _ => k - (intOf ii).toNat)
          case atStart => exact ⟨0, Nat.zero_le _, rfl, rfl, Kpt.refl w5⟩
          case round =>
            obtain ⟨x, hx, rfl, rfl, HK3⟩ := hrel
            obtain ⟨p0, p1, p2⟩ := (HPT.out.kpt HK.out).kpt HK3.out
            simp only at p0 p1 p2
            by_cases hxk : x < k
            · obtain ⟨g, off, rfl, hfl⟩ := HLF.out x hxk
              have f1 : wr.cell? ⟨g, off + x * 10 + 1, none⟩ = _ := HK3.out.cell (HK.out.cell (hfl 1 (by omega)))
              have f2 : wr.cell? ⟨g, off + x * 10 + 2, none⟩ = _ := HK3.out.cell (HK.out.cell (hfl 2 (by omega)))
              have hs2 := HKS2.out x hxk
              clear hfl
              generalize (fs.getD x []).getD 1 0 = F2 at *
              generalize (fs.getD x []).getD 2 0 = T2 at *
              cases hkn : knB fs F T x with
              | true =>
                rw [hkn, Bool.true_or] at hs2
                have HS2 := Lib.hid hs2
                clear hs2 hkn
                go_wp2
                go_quiet (fail)
                go_wp2
                go_roundw
                case rel => exact ⟨x + 1, by omega, by go_num, by rw [HS2.out], HK3.out.drewN _⟩
                case measure => simp [intOf]; omega
              | false =>
                rw [hkn, Bool.false_or] at hs2
                clear hkn
                cases hF : (F2 == F) with
                | false =>
                  rw [hF, Bool.false_and] at hs2
                  have HS2 := Lib.hid hs2
                  clear hs2
                  go_wp2
                  go_quiet (fail)
                  go_wp2
                  go_roundw
                  case rel => exact ⟨x + 1, by omega, by go_num, by rw [HS2.out], HK3.out.drewN _⟩
                  case measure => simp [intOf]; omega
                | true =>
                  rw [hF, Bool.true_and] at hs2
                  have HS2 := Lib.hid hs2
                  clear hs2
                  cases hT : (T2 == T) with
                  | false =>
                    go_wp2
                    go_quiet (fail)
                    go_wp2
                    go_roundw
                    case rel => exact ⟨x + 1, by omega, by go_num, by rw [HS2.out, hT], HK3.out.drewN _⟩
                    case measure => simp [intOf]; omega
                  | true =>
                    go_wp2
                    go_quiet (fail)
                    go_wp2
                    go_roundw
                    case rel => exact ⟨x + 1, by omega, by go_num, by rw [HS2.out, hT], HK3.out.drewN _⟩
                    case measure => simp [intOf]; omega
            · obtain rfl : x = k := by omega
              rw [O7.out]
              go_wp2
              go_roundw
              case rel => exact ⟨j + 1, by omega, by go_num, ktr HK.out HK3.out⟩
              case measure => simp [intOf]; omega
        · obtain rfl : j = m := by omega
          have z1 := Z1.out
          have KE := Lib.hid (ktr KR.out HK.out)
          by_cases hq : 0 < q
          · have z2 : decide (0 < q) = true := decide_eq_true hq
            go_wp2
            go_ret
            exact ⟨rfl, KE.out⟩
          · have z2 : decide (0 < q) = false := decide_eq_false hq
            have yN : ((N : Int) == 0) = true := by rw [(O5.out).resolve_left hq]; rfl
            go_wp2
            go_ret
            exact ⟨rfl, KE.out⟩
theorem only_plain (W : Int) (tv lv pv : Value) (q : Int) (v : Value) (hs : List Int) (ts fs : List (List Int)) (ps : List Int) (w : World) (hr : Reads w v hs) (hf : Fits hs) (ht : ReadsT w tv ts) (hl : ReadsF w lv fs) (hp : Reads w pv ps) :
    Calls Try.prog 4 #[calV W v, tv, lv, pv, .int .i64 q] w fun e w' => e = .returned (.bool true) ∧ Kpt w w' := by
  have D : ∀ w', Kpt w w' → Calls Try.prog 8 #[.agg #[.int .i64 W, v], tv, lv, pv, .int .i64 q] w' fun e w'' => ∃ dv, e = .returned (.tuple #[dv, .int .i64 (dayE W hs ts fs ps q)]) ∧ ReadsP w'' dv (dayD W hs ts fs ps q) ∧ Kpt w' w'' := fun w' k => by
    refine (day_any W q v tv lv pv hs ts fs ps w' (hr.kpt k) hf (ht.kpt k) (hl.kpt k) (hp.kpt k)).mono ?_
    rintro e w'' ⟨dv, rfl, ho, hk⟩
    exact ⟨dv, rfl, OwnsT.reads ho dayD_inp, hk⟩
  by_cases hE : dayE W hs ts fs ps q = 0
  · rw [hE] at D
    have OF := only_facts hE
    obtain ⟨a, cap, rfl, hm, -, hc⟩ := hl
    obtain ⟨at', ct, rfl, hmt, htc⟩ := ht
    obtain ⟨g2, off2, e, -⟩ := htc 0 (by rw [OF.2.1]; omega)
    subst e
    refine only_ok W q v g2 off2 ct a cap pv hs ts fs w _ hr hf (fun k hk j hj => ?_) hc OF dayD_inp D
    obtain ⟨g, off, e, h⟩ := htc k hk
    simp only [Option.some.injEq, Addr.mk.injEq] at e
    obtain ⟨rfl, rfl, -⟩ := e
    exact h j hj
  · exact only_no W q v tv lv pv w _ [] hE fun w' k => (D w' k).mono fun e w'' ⟨dv, h1, _, h3⟩ => ⟨dv, h1, h3⟩

end Go.Proofs.Ytmoanndonfmihaa
