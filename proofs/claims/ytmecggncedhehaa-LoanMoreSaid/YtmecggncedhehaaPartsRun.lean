/-
  What Parts of package share does, given what greatestFirst does: its contract.
-/
import Derived.Test.YtmecggncedhehaaQuota
import Derived.Test.YtmecggncedhehaaSortC
namespace Go.Proofs.Ytmecggncedhehaa
open Go.RowKit Go.Lib
set_option linter.unusedVariables false

/-- a new row comes back, and no error; what was there has not turned -/
def Yields (w : World) (ss : List Int) (e : Ending) (w' : World) : Prop :=
  ∃ g, e = .returned (.tuple #[.slice (some ⟨g, 0, none⟩) ss.length ss.length, .int .i64 0]) ∧ w.heap.size ≤ g ∧ Row w' g ss ∧ Below w.heap.size w w'
theorem yields_mk {w w' : World} {g n : Nat} {ss : List Int} (hn : ss.length = n) (hg : w.heap.size ≤ g) (h : Row w' g ss) (k : Below w.heap.size w w') : Yields w ss (.returned (.tuple #[.slice (some ⟨g, 0, none⟩) n n, .int .i64 0])) w' := by
  subst hn; exact ⟨g, rfl, hg, h, k⟩

theorem all_mem {zs : List Int} (h : zs.all wtB = true) : ∀ z ∈ zs, 0 ≤ z ∧ z ≤ 1099511627776 := fun z hz => wt_t (List.all_eq_true.1 h z hz)
theorem wsum_bd {zs : List Int} (h : zs.all wtB = true) (hl : zs.length ≤ 40) : 0 ≤ zs.sum ∧ zs.sum ≤ 43980465111040 := by
  refine ⟨sum_nonneg fun x hx => (all_mem h x hx).1, ?_⟩
  have := sum_le fun x hx => (all_mem h x hx).2
  omega
theorem mem_le_sum {zs : List Int} (h : ∀ z ∈ zs, 0 ≤ z) : ∀ z ∈ zs, z ≤ zs.sum := by
  induction zs with
  | nil => intro z hz; simp at hz
  | cons a zs ih =>
    intro z hz
    have h1 := h a (by simp)
    have h2 := sum_nonneg (xs := zs) fun x hx => h x (by simp [hx])
    rw [List.sum_cons]
    rcases List.mem_cons.1 hz with rfl | hz
    · omega
    · have := ih (fun x hx => h x (by simp [hx])) z hz; omega
theorem foldl_max_le (zs : List Int) (a : Int) : a ≤ zs.foldl max a ∧ ∀ z ∈ zs, z ≤ zs.foldl max a := by
  induction zs generalizing a with
  | nil => exact ⟨Int.le_refl _, by simp⟩
  | cons z zs ih =>
    obtain ⟨h1, h2⟩ := ih (max a z)
    rw [List.foldl_cons]
    refine ⟨by omega, fun x hx => ?_⟩
    rcases List.mem_cons.1 hx with rfl | hx
    · omega
    · exact h2 x hx
theorem foldl_max_zero (zs : List Int) (a : Int) (ha : a = 0) (h : ∀ z ∈ zs, z = 0) : zs.foldl max a = 0 := by
  induction zs generalizing a with
  | nil => exact ha
  | cons z zs ih =>
    rw [List.foldl_cons]
    have hz := h z (by simp)
    exact ih _ (by omega) fun x hx => h x (by simp [hx])
/-- weights that are not all nought have a sum above it -/
theorem sum_pos {zs : List Int} (h : zs.all wtB = true) (hm : Lib.maxOf zs ≠ 0) : 0 < zs.sum := by
  have h0 : ∀ z ∈ zs, 0 ≤ z := fun z hz => (all_mem h z hz).1
  have h1 := sum_nonneg h0
  rcases Int.lt_or_eq_of_le h1 with g | g
  · exact g
  · exfalso
    apply hm
    have hz : ∀ z ∈ zs, z = 0 := fun z hz => by have := mem_le_sum h0 z hz; have := h0 z hz; omega
    unfold Lib.maxOf
    refine foldl_max_zero zs _ ?_ hz
    cases zs with
    | nil => rfl
    | cons a zs => exact hz a (by simp)

/-- what greatestFirst must do -/
def Firsts (nums os : List Int) : Prop := ∀ (g : Nat) (w : World), Row w g nums → Calls Try.prog 116 #[.slice (some ⟨g, 0, none⟩) nums.length nums.length] w (Order w os)

set_option maxRecDepth 100000 in
set_option maxHeartbeats 2000000 in
theorem parts_ok (b off cap : Nat) (zs : List Int) (T : Int) (hT : 0 ≤ T) (hT' : T ≤ 1152921504606846976) (w : World) (hr : Reads w (.slice (some ⟨b, off, none⟩) zs.length cap) zs) (hE : wtsE zs = 0)
    (os : List Int) (hF : Firsts (rmd T zs.sum zs) os) (hol : os.length = zs.length) (hob : ∀ k, k < os.length → 0 ≤ os.getD k 0 ∧ os.getD k 0 < zs.length) :
    Calls Try.prog 78 #[.int .i64 T, .slice (some ⟨b, off, none⟩) zs.length cap] w (Yields w (bump (prt T zs.sum zs) (os.take (T - (prt T zs.sum zs).sum).toNat))) := by
  have C := Lib.hid (shareCheck_any _ zs w hr)
  rw [hE] at C
  obtain ⟨h0, hm, hall, hmx⟩ : zs ≠ [] ∧ zs.length ≤ 40 ∧ zs.all wtB = true ∧ Lib.maxOf zs ≠ 0 := by
    rcases wtsE_cases zs with ⟨_, a, b, c, d⟩ | h
    · exact ⟨a, b, c, d⟩
    · omega
  have hp : 0 < zs.length := List.length_pos_iff.2 h0
  have hS := sum_pos hall hmx
  have hSb := (wsum_bd hall hm).2
  have hz0 : ∀ z ∈ zs, 0 ≤ z := fun z hz => (all_mem hall z hz).1
  have TT := Lib.hid (total_ok _ zs.length cap zs hm w hr (allE_ok fun a ha => amt_mk (by have := all_mem hall a ha; omega) (by have := all_mem hall a ha; omega)) (amt_mk (by omega) (by omega)))
  have hcells : ∀ j, j < zs.length → w.cell? ⟨b, off + j, none⟩ = some (.int .i64 (zs.getD j 0)) := by
    rcases hr.cell with ⟨rfl, _⟩ | ⟨_, b', off', cap', e, hc⟩
    · exact absurd rfl h0
    · injection e with e1 e2 e3
      injection e1 with e1
      injection e1 with e1 e2
      subst e1 e2
      exact hc
  have HW := Lib.hid hcells
  obtain ⟨S, hSe⟩ : ∃ S, zs.sum = S := ⟨_, rfl⟩
  rw [hSe] at TT hS hSb hF ⊢
  have HQ : Hid (∀ k, k < zs.length → ∀ w, Calls Try.prog 115 #[.int .i64 T, .int .i64 (zs.getD k 0), .int .i64 S] w fun e w' => e = .returned (.tuple #[.int .i64 ((prt T S zs).getD k 0), .int .i64 ((rmd T S zs).getD k 0)]) ∧ Grew w w') := by
    intro k hk w
    rw [prt_at T S zs hk, rmd_at T S zs hk]
    have hb := wt_at hall k
    have hle : zs.getD k 0 ≤ S := by
      rw [← hSe]; apply mem_le_sum hz0
      rw [List.getD_eq_getElem?_getD, List.getElem?_eq_getElem hk]; simp
    by_cases hs : S ≤ 1099511627776
    · exact quota_small T _ S hT hT' hb.1 hle hS hs w
    · exact quota_big T _ S hT hT' hb.1 hb.2 hle (by omega) hSb w
  have HLB := Lib.hid (fun k => left_bd hT hS hz0 hSe k)
  have hle := left_end hT hS hSe h0
  have hlb : 0 ≤ (prt T S zs).sum ∧ (prt T S zs).sum ≤ T := by
    have := left_bd hT hS hz0 hSe zs.length
    rw [List.take_of_length_le (by rw [prt_len]; exact Nat.le_refl _)] at this
    exact this
  have HPB : Hid (∀ j, 0 ≤ (prt T S zs).getD j 0 ∧ (prt T S zs).getD j 0 ≤ 1152921504606846976) := by
    intro j
    by_cases hj : j < zs.length
    · rw [prt_at T S zs hj]
      have hb := wt_at hall j
      have hle : zs.getD j 0 ≤ S := by
        rw [← hSe]; apply mem_le_sum hz0
        rw [List.getD_eq_getElem?_getD, List.getElem?_eq_getElem hj]; simp
      have := quot_le hT hb.1 hS hle
      omega
    · rw [List.getD_eq_getElem?_getD, List.getElem?_eq_none (by rw [prt_len]; omega)]; decide
  have HF := Lib.hid hF
  have HOB := Lib.hid hob
  have HOL := Lib.hid hol
  have HPL := Lib.hid (prt_len T S zs)
  have HRL := Lib.hid (rmd_len T S zs)
  clear hcells hall hE hr h0 hmx hz0 hSe hF hob hol hS hSb
  go_enter Try.func78, Try.ntmps78
  go_wp2_with (first
    | (go_at_call 113; (with_reducible refine C.out.mono ?_); rintro e w' ⟨rfl, rfl⟩)
    | (go_at_call 114; (with_reducible refine TT.out.mono ?_); rintro e w1 ⟨rfl, g1⟩; have MK1 := run_zeros w1 zs.length (by omega); have MK2 := run_zeros (w1.alloc (.cells (Array.replicate zs.length (Value.int .i64 0)) 3)) zs.length (by omega); rw [World.size_alloc] at MK2; have G1 := Lib.hid g1; clear g1))
  go_loopw [11, 41] (fun l i wr => ∃ k : Nat, k ≤ zs.length ∧ i = .int .i64 k ∧ l = .int .i64 (T - ((prt T S zs).take k).sum) ∧ Hid (Row wr w1.heap.size (mix (prt T S zs) k)) ∧ Hid (Row wr (w1.heap.size + 1) (mix (rmd T S zs) k)) ∧ Hid (Below w1.heap.size w1 wr)) (fun _ i _ => zs.length - (intOf i).toNat)
  case atStart =>
    refine ⟨0, Nat.zero_le _, rfl, ?_, ?_, ?_, ?_⟩
    · rw [List.take_zero, List.sum_nil, Int.sub_zero]
    · unfold Hid
      rw [mix_zero, HPL.out]
      exact (Row.made w1 zs.length).grew ((Grew.refl _).alloc _ _)
    · unfold Hid
      rw [mix_zero, HRL.out]
      have := Row.made (w1.alloc (.cells (Array.replicate zs.length (Value.int .i64 0)) 3)) zs.length
      rw [World.size_alloc] at this
      exact this
    · exact ((Below.refl w1.heap.size w1).alloc (Nat.le_refl _) _).alloc (by rw [World.size_alloc]; omega) _
  case round =>
    obtain ⟨k, hk, rfl, rfl, HP, HR, HB⟩ := hrel
    clear MK1 MK2
    by_cases hlt : k < zs.length
    · have c0 := (HB.out.cell (p := ⟨b, off + k, none⟩) (cell_in (G1.out.cell (cell_in (HW.out k hlt)) (HW.out k hlt)))).trans (G1.out.cell (cell_in (HW.out k hlt)) (HW.out k hlt))
      have Q := HQ.out k hlt wr
      have l1 := HLB.out k
      have l2 := HLB.out (k + 1)
      have ts := take_sum (xs := prt T S zs) (k := k) (by rw [HPL.out]; exact hlt)
      have HPp := Lib.hid (mix_put (prt T S zs) k)
      have HRp := Lib.hid (mix_put (rmd T S zs) k)
      have qb := HPB.out k
      rw [ts] at l2
      generalize (prt T S zs).getD k 0 = q at Q l2 ts HPp qb
      generalize (rmd T S zs).getD k 0 = r at Q HRp
      generalize zs.getD k 0 = z at c0 Q
      have TS := Lib.hid ts
      have HQQ := Lib.hid Q
      clear ts Q
      generalize ((prt T S zs).take k).sum = L at l1 l2 TS ⊢
      have AT : Hid (∀ w2, Grew wr w2 → ∃ u v, w2.cell? ⟨w1.heap.size, k, none⟩ = some u ∧ w2.frozen? ⟨w1.heap.size, k, none⟩ = false ∧ w2.cell? ⟨w1.heap.size + 1, k, none⟩ = some v ∧ w2.frozen? ⟨w1.heap.size + 1, k, none⟩ = false) := fun w2 g => ⟨_, _, (HP.out.grew g).cell (by rw [mix_len, HPL.out]; exact hlt), (HP.out.grew g).frozen k, (HR.out.grew g).cell (by rw [mix_len, HRL.out]; exact hlt), (HR.out.grew g).frozen k⟩
      go_wp2_with (go_at_call 115; (with_reducible refine HQQ.out.mono ?_); rintro e w2 ⟨rfl, g2⟩; obtain ⟨u, v, cu, fu, cv, fv⟩ := AT.out w2 g2; have G2 := Lib.hid g2; clear g2)
      go_roundw
      case rel =>
        refine ⟨k + 1, by omega, by go_num, by rw [TS.out]; go_num, ?_, ?_, ?_⟩
        · unfold Hid at HPp ⊢
          rw [← HPp]
          exact ((HP.out.grew G2.out).put k _).away (by show w1.heap.size ≠ w1.heap.size + 1; omega) _
        · unfold Hid at HRp ⊢
          rw [← HRp]
          exact ((HR.out.grew G2.out).away (by show w1.heap.size + 1 ≠ w1.heap.size; omega) _).put k _
        · exact ((HB.out.trans (G2.out.below.mono HB.out.size)).setCell (Nat.le_refl _) _).setCell (Nat.le_succ _) _
      case measure => simp [intOf]; omega
    · obtain rfl : k = zs.length := by omega
      have et : (prt T S zs).take zs.length = prt T S zs := List.take_of_length_le (by rw [HPL.out]; exact Nat.le_refl _)
      rw [et]
      obtain ⟨lf, hlf⟩ : ∃ lf : Nat, T - (prt T S zs).sum = lf := ⟨(T - (prt T S zs).sum).toNat, by omega⟩
      rw [hlf]
      have HLF := Lib.hid hlf
      have lfn : lf < zs.length := by omega
      have hP : Row wr w1.heap.size (prt T S zs) := by have h := HP.out; rw [← HPL.out, mix_full] at h; exact h
      have hR : Row wr (w1.heap.size + 1) (rmd T S zs) := by have h := HR.out; rw [← HRL.out, mix_full] at h; exact h
      have F := HF.out (w1.heap.size + 1) wr hR
      rw [HRL.out] at F
      have F' : Calls Try.prog 116 #[.slice (some ⟨w1.heap.size + 1, 0, none⟩) zs.length zs.length] wr (fun e w' => ∃ O, e = .returned (.slice (some ⟨O, 0, none⟩) zs.length zs.length) ∧ wr.heap.size ≤ O ∧ Row w' O os ∧ Below wr.heap.size wr w') := by
        refine F.mono ?_
        rintro e w' ⟨O, rfl, h1, h2, h3⟩
        rw [HOL.out]
        exact ⟨O, rfl, h1, h2, h3⟩
      have HFF := Lib.hid F'
      have HP2 := Lib.hid hP
      clear F F' hR hP HP HR et hlf hle hlb
      go_wp2_with (go_at_call 116; (with_reducible refine HFF.out.mono ?_); rintro e w2 ⟨O, rfl, hO, rO, bO⟩; have RO := Lib.hid rO; have BO := Lib.hid bO; clear rO bO)
      have pO : w1.heap.size < O := by have := HB.out.size; have := HP2.out.lt; omega
      go_loopw [71] (fun i wq => ∃ k : Nat, k ≤ lf ∧ i = .int .i64 k ∧ Hid (Row wq w1.heap.size (bump (prt T S zs) (os.take k))) ∧ Hid (Row wq O os) ∧ Hid (Below w1.heap.size w1 wq)) (fun i _ => lf - (intOf i).toNat)
      case atStart => exact ⟨0, Nat.zero_le _, rfl, HP2.out.below BO.out HP2.out.lt, RO.out, HB.out.trans (BO.out.mono HB.out.size)⟩
      case round =>
        obtain ⟨k, hk, rfl, HA, HO, HC⟩ := hrel
        by_cases hlt : k < lf
        · have hko : k < os.length := by rw [HOL.out]; omega
          have c1 := HO.out.cell hko
          have ob := HOB.out k hko
          have bs := bump_step (prt T S zs) os hko
          generalize os.getD k 0 = o at c1 ob bs
          obtain ⟨on, rfl⟩ : ∃ on : Nat, o = on := ⟨o.toNat, by omega⟩
          rw [Int.toNat_natCast] at bs
          unfold give at bs
          have onl : on < zs.length := by omega
          have c2 := HA.out.cell (j := on) (by rw [bump_len, HPL.out]; exact onl)
          have f2 := HA.out.frozen on
          have zb := bump_bd HPB.out (os.take k) on
          have lk : ((os.take k).length : Int) ≤ 40 := by rw [List.length_take]; omega
          generalize (bump (prt T S zs) (os.take k)).getD on 0 = z at c2 bs zb
          have BS := Lib.hid bs
          clear bs
          have zb1 : z ≤ 1152921504606847016 := by omega
          have zb0 : 0 ≤ z := zb.1
          clear zb lk
          go_wp2
          go_roundw
          case rel =>
            refine ⟨k + 1, by omega, by go_num, ?_, ?_, ?_⟩
            · unfold Hid at BS ⊢
              rw [BS]
              exact HA.out.put on _
            · exact HO.out.away (by show O ≠ w1.heap.size; omega) _
            · exact HC.out.setCell (Nat.le_refl _) _
          case measure => simp [intOf]; omega
        · obtain rfl : k = lf := by omega
          go_wp2
          go_ret2
          have e : (T - (prt T S zs).sum).toNat = k := by rw [HLF.out, Int.toNat_natCast]
          exact yields_mk (by rw [bump_len, HPL.out]) G1.out.below.size (by rw [e]; exact HA.out) (G1.out.below.trans (HC.out.mono G1.out.below.size))

end Go.Proofs.Ytmecggncedhehaa
