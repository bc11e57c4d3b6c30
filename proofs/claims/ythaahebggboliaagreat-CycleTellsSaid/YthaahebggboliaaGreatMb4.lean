/-
  Merged: BookH, BookI.
-/
import Derived.Test.YthaahebggboliaaGreatMb3
import Derived.Test.YthaahebggboliaaGreatMb1
-- BookH
namespace Go.Proofs.YthaahebggboliaaGreat
open Go.RowKit Go.Sort Go.Lib
set_option linter.unusedVariables false

theorem OwnsP.kpt {w w' : World} {base : Nat} {v : Value} {ps : List (Int × Int × Int)} (h : OwnsP w base v ps) (g : Kpt w w') : OwnsP w' base v ps := by
  obtain ⟨h1, h2⟩ := h
  refine ⟨h1, ?_⟩
  rcases h2 with h2 | ⟨k, cap, cur, e, hk, hh, r⟩
  · exact .inl h2
  · exact .inr ⟨k, cap, cur, e, hk, (Below.block g k (Array.getElem?_eq_some_iff.1 hh).1).trans hh, r⟩
theorem OwnsP.away {w : World} {base : Nat} {v : Value} {ps : List (Int × Int × Int)} (h : OwnsP w base v ps) {p : Addr} (hp : some p.block ≠ v.ownBlock) (u : Value) : OwnsP (w.setCell p u) base v ps := by
  obtain ⟨h1, h2⟩ := h
  refine ⟨h1, ?_⟩
  rcases h2 with h2 | ⟨g, cap, cur, rfl, hg, hh, r⟩
  · exact .inl h2
  · exact .inr ⟨g, cap, cur, rfl, hg, (Below.heap_setCell w p u g (fun e => hp (by simp [Value.ownBlock, e]))).trans hh, r⟩
theorem OwnsP.lt {w : World} {base : Nat} {v : Value} {ps : List (Int × Int × Int)} (h : OwnsP w base v ps) {k : Nat} (hk : w.heap.size ≤ k) : some k ≠ v.ownBlock := fun e => by
  rcases h.2 with ⟨rfl, _⟩ | ⟨g, cap, cur, rfl, hg, hh, _⟩
  · simp [Value.ownBlock] at e
  · simp [Value.ownBlock] at e
    have := (Array.getElem?_eq_some_iff.1 hh).1
    omega
theorem kpt_grown_by (w : World) (n : Nat) (os : Array Obj) : Kpt w (Go.Sort.grow (w.drewN n) os) := ((Kpt.refl w).drewN n).grow os
def MergeRes (w : World) (s : List (Int × Int × Int)) (e : Ending) (w' : World) : Prop :=
  Kpt w w' ∧ ((∃ a u, amtB (sumAt s a u) = false ∧ e = .returned (.tuple #[.slice none 0 0, .int .i64 8])) ∨
    (∃ L v, IsBook L s ∧ (∀ a u, amtB (sumAt s a u) = true) ∧ L.length ≤ s.length ∧ OwnsP w' w.heap.size v L ∧ e = .returned (.tuple #[v, .int .i64 0])))

theorem inner_next {s : List (Int × Int × Int)} {j : Nat} (hs : s.Pairwise (fun x y => plc x ≤ plc y)) (hj : j < s.length) {x : Int} (h : x < plc (s.getD j default)) : ∀ y ∈ s.drop j, x < plc y := by
  intro y hy
  rw [List.drop_eq_getElem_cons hj] at hy
  rw [List.getD_eq_getElem?_getD, List.getElem?_eq_getElem hj] at h
  simp only [Option.getD_some] at h
  rcases List.mem_cons.1 hy with rfl | hy
  · exact h
  · have hp : (s.drop j).Pairwise (fun x y => plc x ≤ plc y) := hs.sublist (List.drop_sublist j s)
    rw [List.drop_eq_getElem_cons hj] at hp
    have := (List.pairwise_cons.1 hp).1 y hy
    omega
theorem pairs_at {s : List (Int × Int × Int)} {k j : Nat} (hs : s.Pairwise (fun x y => plc x ≤ plc y)) (hk : k ≤ j) (hj : j < s.length) : plc (s.getD k default) ≤ plc (s.getD j default) := by
  rcases Nat.lt_or_ge k j with h | h
  · have := List.pairwise_iff_getElem.1 hs k j (by omega) hj h
    rwa [List.getD_eq_getElem?_getD, List.getElem?_eq_getElem (by omega), List.getD_eq_getElem?_getD, List.getElem?_eq_getElem hj]
  · obtain rfl : k = j := by omega
    exact Int.le_refl _

/-- the postings of one place so far, and their sum -/
structure SegAt (s : List (Int × Int × Int)) (k j : Nat) (p : Int × Int × Int) (S : Int) : Prop where
  le : k ≤ j
  same : ∀ x ∈ seg s k j, plc x = plc p
  sum : S = ((seg s k j).map (·.2.2)).sum
theorem seg_start (s : List (Int × Int × Int)) (k : Nat) (p : Int × Int × Int) : SegAt s k k p 0 := ⟨Nat.le_refl _, by rw [seg_self]; simp, by rw [seg_self]; rfl⟩
theorem seg_step {s : List (Int × Int × Int)} {k j : Nat} {p : Int × Int × Int} {S : Int} (h : SegAt s k j p S) (hj : j < s.length) (e : plc (s.getD j default) = plc p) : SegAt s k (j + 1) p (S + (s.getD j default).2.2) := by
  refine ⟨by have := h.le; omega, fun x hx => ?_, ?_⟩
  · rw [seg_succ s h.le hj] at hx
    rcases List.mem_append.1 hx with hx | hx
    · exact h.same x hx
    · rw [List.mem_singleton.1 hx]; exact e
  · rw [seg_succ s h.le hj, List.map_append, List.sum_append, ← h.sum]; simp
theorem seg_okS {s : List (Int × Int × Int)} {k j : Nat} {p : Int × Int × Int} {S : Int} (h : SegAt s k j p S) (hp : ∀ x ∈ s, ptB x = true) (hn : s.length ≤ 4096) : okS S := by
  have h1 := sum_bd (zs := (seg s k j).map (·.2.2)) fun z hz => by
    obtain ⟨x, hx, rfl⟩ := List.mem_map.1 hz
    have := pt_t (hp x (List.mem_of_mem_drop (List.mem_of_mem_take hx)))
    exact amt_mk this.2.2.2.2.2.1 this.2.2.2.2.2.2
  rw [h.sum]
  refine okS_mk (k := (seg s k j).length) ?_ (by simpa using h1.1) (by simpa using h1.2)
  unfold seg
  rw [List.length_take, List.length_drop]
  omega

end Go.Proofs.YthaahebggboliaaGreat

-- BookI
namespace Go.Proofs.YthaahebggboliaaGreat
open Go.RowKit Go.Sort Go.Lib
set_option linter.unusedVariables false

theorem blk_second (w : World) (o : Obj) (ds : Array Value) (T : TypeId) : Blk ((w.alloc o).alloc (.cells ds T)) (w.heap.size + 1) ds T := by
  have := Blk.made (w.alloc o) ds T
  rwa [World.size_alloc] at this
theorem place_is (p : Int × Int × Int) (hp : ptB p = true) (W : World) : Calls Tryz.prog 105 #[.agg #[.int .i64 p.1, .int .i64 p.2.1, .int .i64 p.2.2]] W fun e w' => e = .returned (.int .i64 (plc p)) ∧ ∃ q os', w' = Go.Sort.grow (W.drewN q) os' := place_raw' p W _ (key_plc hp)

theorem reads_one (w : World) (p : Int × Int × Int) (b : Nat) (T : TypeId) (hb : w.heap.size = b) (hp : InP [p]) : ReadsP (w.alloc (.cells #[.int .i64 p.1, .int .i64 p.2.1, .int .i64 p.2.2] T)) (.slice (some ⟨b, 0, none⟩) 1 1) [p] := by
  subst hb
  refine ⟨_, 1, rfl, (fun e => by cases e), by unfold maxLen; simp, hp, fun j hj => ⟨w.heap.size, 0, rfl, ?_⟩⟩
  obtain rfl : j = 0 := by simpa using hj
  have B := Blk.made w #[.int .i64 p.1, .int .i64 p.2.1, .int .i64 p.2.2] T
  exact ⟨B.cell 0, B.cell 1, B.cell 2⟩
theorem OwnsP.alloc {w : World} {base : Nat} {v : Value} {ps : List (Int × Int × Int)} (h : OwnsP w base v ps) (o : Obj) : OwnsP (w.alloc o) base v ps := h.kpt ((Kpt.refl w).alloc o)
theorem inner_on {s : List (Int × Int × Int)} {k j : Nat} {p : Int × Int × Int} {S q0 q1 q2 K : Int} (h : SegAt s k j p S) (hj : j < s.length) (hq : (q0, q1, q2) = s.getD j default) (h1 : plc p = K) (h2 : plc (q0, q1, q2) = K) : SegAt s k (j + 1) p (S + q2) := by
  have := seg_step h hj (by rw [← hq, h1, h2])
  rwa [← hq] at this
set_option maxRecDepth 100000 in
set_option maxHeartbeats 8000000 in
theorem merge_some (b off cap : Nat) (s : List (Int × Int × Int)) (w : World) (hm : s.length ≤ 4096) (hp : ∀ x ∈ s, ptB x = true) (hs : s.Pairwise (fun x y => plc x ≤ plc y)) (hc : ∀ j, j < s.length → PtAt w b (off + j * 3) (s.getD j default)) :
    Calls Tryz.prog 114 #[.slice (some ⟨b, off, none⟩) s.length cap] w (MergeRes w s) := by
  have HC := Lib.hid hc; clear hc
  have HP := Lib.hid hp; clear hp
  have HS := Lib.hid hs; clear hs
  have mixed : Tryz.prog.follows .mixedOrders = true := by kernel_rfl
  go_enter Tryz.func114, Tryz.ntmps114
  go_wp2
  go_loopw [4, 5] (fun v i wr => ∃ (k : Nat) (L : List (Int × Int × Int)), k ≤ s.length ∧ i = .int .i64 k ∧ Hid (OwnsP wr w.heap.size v L) ∧ Hid (Merged s k L) ∧ Hid (Kpt w wr)) (fun _ i _ => s.length - (intOf i).toNat)
  case atStart => exact ⟨0, [], Nat.zero_le _, rfl, OwnsP.nil _ _, merged_start s, Kpt.refl _⟩
  case round =>
    obtain ⟨k, L, hk, rfl, HO, HM, HK⟩ := hrel
    by_cases hlt : k < s.length
    · obtain ⟨c0, c1, c2⟩ := (HC.out k hlt).kpt HK.out
      have hpp := HP.out _ (getP_mem hlt)
      obtain ⟨p, hpe⟩ : ∃ p, p = s.getD k default := ⟨_, rfl⟩
      rw [← hpe] at c0 c1 c2 hpp
      have HPE := Lib.hid hpe; clear hpe
      have PL := Lib.hid (fun W => place_is p hpp W)
      have HPP := Lib.hid hpp; clear hpp
      obtain ⟨A, U, N⟩ := p
      simp only at c0 c1 c2
      obtain ⟨wo, hwo⟩ : ∃ wo : World, wo = wr := ⟨_, rfl⟩
      subst hwo
      have sz := HK.out.size
      have NE0 := Lib.hid (HO.out.lt (k := wo.heap.size) (Nat.le_refl _))
      have NE1 := Lib.hid (HO.out.lt (k := wo.heap.size + 1) (Nat.le_succ _))
      have sz1 : w.heap.size ≤ wo.heap.size + 1 := by omega
      have szn : wo.heap.size ≠ wo.heap.size + 1 := by omega
      go_wp2
      go_loopw [5] (fun i wr => ∃ (j : Nat) (S : Int), k ≤ j ∧ j ≤ s.length ∧ i = .int .i64 j ∧ Hid (SegAt s k j (A, U, N) S) ∧ Hid (Blk wr wo.heap.size #[.int .i64 A, .int .i64 U, .int .i64 N] 55) ∧ Hid (Blk wr (wo.heap.size + 1) #[.int .i64 (hiOf S), .int .u64 (loOf S)] 148) ∧ Hid (OwnsP wr w.heap.size u4 L) ∧ Hid (Kpt w wr)) (fun i _ => s.length - (intOf i).toNat)
      case atStart => exact ⟨k, 0, Nat.le_refl _, hk, rfl, seg_start s k _, (Blk.made wo _ _).alloc _, (by unfold Hid; rw [hi_zero, lo_zero]; exact blk_second wo _ _ _), (HO.out.kpt ((Kpt.refl wo).alloc _)).kpt ((Kpt.refl _).alloc _), (HK.out.alloc _).alloc _⟩
      case round =>
        obtain ⟨j, S, hkj, hj, rfl, HG, HL, HZ, HW, HQ⟩ := hrel
        by_cases hcont : ∃ hjl : j < s.length, plc (s.getD j default) = plc (s.getD k default)
        · obtain ⟨hjl, hcont⟩ := hcont
          obtain ⟨q, hqe⟩ : ∃ q, q = s.getD j default := ⟨_, rfl⟩
          have hcj := (HC.out j hjl).kpt HQ.out
          have hqq := HP.out _ (getP_mem hjl)
          have hle := pairs_at HS.out hkj hjl
          rw [← hqe] at hcj hqq hle hcont
          rw [← HPE.out] at hle hcont
          have QL := Lib.hid (fun W => place_is q hqq W)
          have HQQ := Lib.hid hqq; clear hqq
          have HQE := Lib.hid hqe; clear hqe
          obtain ⟨d0, d1, d2⟩ := hcj
          have f0 := cell_grown (w := wr) (cell_in d0) d0
          have f1 := cell_grown (w := wr) (cell_in d1) d1
          have f2 := cell_grown (w := wr) (cell_in d2) d2
          have g0 := cell_grown (w := wr) (a := ⟨wo.heap.size, 0, none⟩) (v := .int .i64 A) HL.out.lt (HL.out.cell 0)
          have g1 := cell_grown (w := wr) (a := ⟨wo.heap.size, 1, none⟩) (v := .int .i64 U) HL.out.lt (HL.out.cell 1)
          have g2 := cell_grown (w := wr) (a := ⟨wo.heap.size, 2, none⟩) (v := .int .i64 N) HL.out.lt (HL.out.cell 2)
          have b0 : (0 : Int) ≤ (j : Int) := by omega
          have b1 : (j : Int) < (s.length : Int) := by omega
          have b2 : decide ((j : Int) < (s.length : Int)) = true := decide_eq_true b1
          have HCO := Lib.hid hcont; clear hcont
          generalize hK1 : plc (A, U, N) = K1 at PL hle
          generalize hK2 : plc q = K2 at QL hle
          have HK1 := Lib.hid hK1; have HK2 := Lib.hid hK2; clear hK1 hK2
          have D2 := Lib.hid d2
          have OKS := Lib.hid (seg_okS HG.out HP.out hm)
          have QN := Lib.hid (pt_t HQQ.out)
          clear d0 d1 d2
          obtain ⟨q0, q1, q2⟩ := q
          simp only at f0 f1 f2
          obtain ⟨-, -, -, -, -, n0, n1⟩ := QN.out
          simp only at n0 n1
          clear QN
          obtain rfl : K2 = K1 := by rw [← HK1.out, ← HK2.out]; exact HCO.out.symm ▸ rfl
          go_wp2_with fail
          go_quiet_grown (first
            | (go_at_call 105; with_reducible refine Calls.grown_of (PL.out _))
            | (go_at_call 105; with_reducible refine Calls.grown_of (QL.out _)))
          have KG := Lib.hid (kpt_grown_by wr nq osq)
          clear f0 f1 f2 g0 g1 g2
          generalize Go.Sort.grow (wr.drewN nq) osq = wr2 at *
          have BZ := Lib.hid (HZ.out.kpt KG.out)
          have h0 : wr2.cell? ⟨wo.heap.size + 1, 0, none⟩ = some (.int .i64 (hiOf S)) := BZ.out.cell 0
          have h1 : wr2.cell? ⟨wo.heap.size + 1, 1, none⟩ = some (.int .u64 (loOf S)) := BZ.out.cell 1
          have h2 : wr2.cell? ⟨b, off + j * 3 + 2, none⟩ = some (.int .i64 q2) := (show Kpt wr wr2 from KG.out).cell D2.out
          have KD := Lib.hid (show Kpt wr wr2.drew from Below.drew KG.out)
          go_wp2_with fail
          go_region_with (go_at_call 116; (with_reducible refine (plus_at S q2 _ OKS.out (by omega) (by omega)).mono ?_); rintro e w3 ⟨rfl, t3⟩; have B3 := Lib.hid ((BZ.out.drew).grew t3); have i0 : w3.cell? ⟨wo.heap.size + 1, 0, none⟩ = some (.int .i64 (hiOf S)) := B3.out.cell 0; have i1 : w3.cell? ⟨wo.heap.size + 1, 1, none⟩ = some (.int .u64 (loOf S)) := B3.out.cell 1; have i2 := B3.out.frozen 0; have i3 := B3.out.frozen 1; have G3 := Lib.hid (ktr KD.out t3.kpt); clear t3)
          all_goals
            go_wp2
            go_roundw
            case rel =>
              refine ⟨j + 1, S + q2, by omega, by omega, by go_num, inner_on HG.out hjl HQE.out HK1.out HK2.out, ?_, (B3.out.put 0 _).put 1 _, ?_, ?_⟩
              · exact ((HL.out.kpt G3.out).away szn _).away szn _
              · exact ((HW.out.kpt G3.out).away NE1.out _).away NE1.out _
              · exact ((ktr HQ.out G3.out).setCell sz1 _).setCell sz1 _
            case measure => simp [intOf]; omega
        · have hr : ∀ y ∈ s.drop j, plc (A, U, N) < plc y := by
            rw [HPE.out]
            by_cases hjl : j < s.length
            · have h1 := pairs_at HS.out hkj hjl
              have h2 : ¬ plc (s.getD j default) = plc (s.getD k default) := fun q => hcont ⟨hjl, q⟩
              exact inner_next HS.out hjl (by omega)
            · rw [List.drop_eq_nil_of_le (by omega)]; simp
          have hkj' : k < j := by
            rcases Nat.lt_or_ge k j with h | h
            · exact h
            · obtain rfl : k = j := by omega
              exact absurd ⟨hlt, rfl⟩ hcont
          have MS := Lib.hid (merged_sum HM.out HP.out HPP.out hlt hkj' HPE.out HG.out.same hr)
          have MT := Lib.hid (fun hS => merged_step HM.out HP.out HPP.out hlt hkj' HPE.out HG.out.same hr hS)
          unfold Hid at MS MT
          rw [← HG.out.sum] at MS MT
          have MS' := Lib.hid MS; have MT' := Lib.hid MT; clear MS MT hr
          have HCO := Lib.hid hcont; clear hcont
          by_cases hjl : j < s.length
          case' pos =>
            obtain ⟨q, hqe⟩ : ∃ q, q = s.getD j default := ⟨_, rfl⟩
            have hcj := (HC.out j hjl).kpt HQ.out
            have hqq := HP.out _ (getP_mem hjl)
            have hle := pairs_at HS.out hkj hjl
            rw [← hqe] at hcj hqq hle
            rw [← HPE.out] at hle
            have QL := Lib.hid (fun W => place_is q hqq W)
            have HQQ := Lib.hid hqq; clear hqq
            have HQE := Lib.hid hqe; clear hqe
            obtain ⟨d0, d1, d2⟩ := hcj
            have f0 := cell_grown (w := wr) (cell_in d0) d0
            have f1 := cell_grown (w := wr) (cell_in d1) d1
            have f2 := cell_grown (w := wr) (cell_in d2) d2
            have g0 := cell_grown (w := wr) (a := ⟨wo.heap.size, 0, none⟩) (v := .int .i64 A) HL.out.lt (HL.out.cell 0)
            have g1 := cell_grown (w := wr) (a := ⟨wo.heap.size, 1, none⟩) (v := .int .i64 U) HL.out.lt (HL.out.cell 1)
            have g2 := cell_grown (w := wr) (a := ⟨wo.heap.size, 2, none⟩) (v := .int .i64 N) HL.out.lt (HL.out.cell 2)
            have b0 : (0 : Int) ≤ (j : Int) := by omega
            have b1 : (j : Int) < (s.length : Int) := by omega
            have b2 : decide ((j : Int) < (s.length : Int)) = true := decide_eq_true b1
            generalize hK1 : plc (A, U, N) = K1 at PL hle
            generalize hK2 : plc q = K2 at QL hle
            have HK1 := Lib.hid hK1; have HK2 := Lib.hid hK2; clear hK1 hK2
            have D2 := Lib.hid d2
            have OKS := Lib.hid (seg_okS HG.out HP.out hm)
            have QN := Lib.hid (pt_t HQQ.out)
            clear d0 d1 d2
            obtain ⟨q0, q1, q2⟩ := q
            simp only at f0 f1 f2
            obtain ⟨-, -, -, -, -, n0, n1⟩ := QN.out
            simp only at n0 n1
            clear QN
            have hk12 : (K2 == K1) = false := beq_eq_false_iff_ne.2 fun q => HCO.out ⟨hjl, by rw [← HQE.out, ← HPE.out, HK1.out, HK2.out]; exact q⟩
            go_wp2_with fail
            go_quiet_grown (first
              | (go_at_call 105; with_reducible refine Calls.grown_of (PL.out _))
              | (go_at_call 105; with_reducible refine Calls.grown_of (QL.out _)))
          case' neg =>
            have b2 : decide ((j : Int) < (s.length : Int)) = false := decide_eq_false (by omega)
            go_wp2_with fail
            go_quiet_grown (fail)
          all_goals
            have KG := Lib.hid (kpt_grown_by wr nq osq)
            generalize Go.Sort.grow (wr.drewN nq) osq = wr2 at *
            (try clear f0 f1 f2 g0 g1 g2)
            have BZ := Lib.hid (HZ.out.kpt KG.out)
            have BL := Lib.hid (HL.out.kpt KG.out)
            have HW2 := Lib.hid (HW.out.kpt KG.out)
            have HQ2 := Lib.hid (ktr HQ.out KG.out)
            have h0 : wr2.cell? ⟨wo.heap.size + 1, 0, none⟩ = some (.int .i64 (hiOf S)) := BZ.out.cell 0
            have h1 : wr2.cell? ⟨wo.heap.size + 1, 1, none⟩ = some (.int .u64 (loOf S)) := BZ.out.cell 1
            cases hS : amtB S with
            | false =>
              have AM := Lib.hid (fun W => amount_no S W hS)
              have BAD : Hid (amtB (sumAt s A U) = false) := by unfold Hid; rw [MS'.out.2]; exact hS
              clear hS
              go_wp2_with (go_at_call 137; (with_reducible refine (AM.out _).mono ?_); rintro e w4 ⟨rfl, t4⟩)
              go_ret2
              exact ⟨ktr HQ2.out t4.kpt, .inl ⟨A, U, BAD.out, rfl⟩⟩
            | true =>
              have AM := Lib.hid (fun W => amount_ok S W hS)
              have SB := amt_t hS
              have MT2 := Lib.hid (MT'.out hS)
              clear hS
              by_cases hz : S = 0
              · have z : (S != 0) = false := by rw [hz]; rfl
                have HM2 := Lib.hid (MT2.out.1 hz)
                clear hz
                go_wp2_with (go_at_call 137; (with_reducible refine (AM.out _).mono ?_); rintro e w4 ⟨rfl, t4⟩)
                go_roundw
                case rel => exact ⟨j, L, hj, rfl, HW2.out.kpt t4.kpt, HM2.out, ktr HQ2.out t4.kpt⟩
                case measure => simp [intOf]; omega
              · have z : (S != 0) = true := bne_iff_ne.2 hz
                have HM2 := Lib.hid (MT2.out.2 hz)
                have hfew := HM.out.few
                have hIn : Hid (InP [(A, U, S)]) := fun x hx => by
                  rw [List.mem_singleton.1 hx]
                  have := pt_t HPP.out
                  simp only at this ⊢
                  omega
                clear hz
                go_wp2_with (first
                  | (go_at_call 137; (with_reducible refine (AM.out _).mono ?_); rintro e w4 ⟨rfl, t4⟩; have BL4 := Lib.hid (BL.out.grew t4); have l0 : w4.cell? ⟨wo.heap.size, 0, none⟩ = some (.int .i64 A) := BL4.out.cell 0; have l1 : w4.cell? ⟨wo.heap.size, 1, none⟩ = some (.int .i64 U) := BL4.out.cell 1; have l2 : w4.cell? ⟨wo.heap.size, 2, none⟩ = some (.int .i64 N) := BL4.out.cell 2; have l3 := BL4.out.frozen 2; have HWx := Lib.hid (((HW2.out.kpt t4.kpt).away (p := ⟨wo.heap.size, 2, none⟩) NE0.out (.int .i64 S)).alloc (.cells #[.int .i64 A, .int .i64 U, .int .i64 S] 55)); have HRx := Lib.hid (reads_one (w4.setCell ⟨wo.heap.size, 2, none⟩ (.int .i64 S)) (A, U, S) w4.heap.size 55 (by simp) hIn.out); have HKx := Lib.hid (((ktr HQ2.out t4.kpt).setCell (p := ⟨wo.heap.size, 2, none⟩) sz (.int .i64 S)).alloc (.cells #[.int .i64 A, .int .i64 U, .int .i64 S] 55)); clear t4)
                  | (at_builtin; refine wp_appendP rfl (.tmp 53) (.tmp 55) rfl w.heap.size _ _ L [(A, U, S)] _ rfl HWx.out rfl HRx.out (by simp; omega) HKx.out.size ?_; intro v' w5 ho' hb'; have HO' := Lib.hid ho'; have HB' : Hid (Kpt w w5) := Below.trans HKx.out hb'; clear ho' hb'))
                go_roundw
                case rel => exact ⟨j, L ++ [(A, U, S)], hj, rfl, HO'.out, HM2.out, HB'⟩
                case measure => simp [intOf]; omega
    · obtain rfl : k = s.length := by omega
      have ME := Lib.hid (merged_end HM.out)
      have FE := Lib.hid HM.out.few
      go_wp2
      go_ret2
      exact ⟨HK.out, .inr ⟨L, _, ME.out.1, ME.out.2, FE.out, HO.out, rfl⟩⟩

end Go.Proofs.YthaahebggboliaaGreat
