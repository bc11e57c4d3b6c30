/-
  Merged: LawLB.
-/
import Derived.Test.YtmecggncedhehaaMlF
import Derived.Test.YtmecggncedhehaaSl
import Derived.Deep.Cut
-- LawLB
namespace Go.Proofs.Ytmecggncedhehaa
open Go.RowKit Go.Lib
set_option linter.unusedVariables false

/-- what all that is taken of offers costs, before anything is lost -/
def dotP (xs : List Int) (ps : List (Int × Int × Int)) : List Int := (List.range ps.length).map fun j => xs.getD j 0 * (ps.getD j default).2.2
theorem dotP_take (xs : List Int) (ps : List (Int × Int × Int)) {k : Nat} (h : k < ps.length) : ((dotP xs ps).take (k + 1)).sum = ((dotP xs ps).take k).sum + xs.getD k 0 * (ps.getD k default).2.2 := by
  have hl : (dotP xs ps).length = ps.length := by simp [dotP]
  rw [take_sum (by rw [hl]; exact h)]
  congr 1
  simp [dotP, List.getD_eq_getElem?_getD, h]
theorem dotP_iota (xs : List Int) (ps : List (Int × Int × Int)) : ((iota ps.length).map fun o => xs.getD o.toNat 0 * pO ps o).sum = (dotP xs ps).sum := by
  unfold dotP iota pO
  rw [List.map_map]
  rfl
/-- how many some are taken of -/
def numP (xs : List Int) (n : Nat) : List Int := (List.range n).map fun j => if 0 < xs.getD j 0 then (1 : Int) else 0
theorem numP_take (xs : List Int) {n k : Nat} (h : k < n) : ((numP xs n).take (k + 1)).sum = ((numP xs n).take k).sum + if 0 < xs.getD k 0 then 1 else 0 := by
  have hl : (numP xs n).length = n := by simp [numP]
  rw [take_sum (by rw [hl]; exact h)]
  congr 1
  simp [numP, List.getD_eq_getElem?_getD, h]
theorem numP_iota (xs : List Int) (n : Nat) : ((iota n).map fun o => if 0 < xs.getD o.toNat 0 then (1 : Int) else 0).sum = (numP xs n).sum := by
  unfold numP iota
  rw [List.map_map]
  rfl
theorem numP_bd (xs : List Int) (n k : Nat) (hk : k ≤ n) : 0 ≤ ((numP xs n).take k).sum ∧ ((numP xs n).take k).sum ≤ k := by
  induction k with
  | zero => simp
  | succ k ih =>
    rw [numP_take xs (by omega)]
    have := ih (by omega)
    split <;> omega
theorem prcs_all (ps : List (Int × Int × Int)) (j : Nat) : (prcs ps).getD j 0 = (ps.getD j default).2.2 := by
  by_cases h : j < ps.length
  · exact prcs_at h
  · rw [List.getD_eq_getElem?_getD, List.getD_eq_getElem?_getD, List.getElem?_eq_none (by rw [prcs_len]; omega), List.getElem?_eq_none (by omega)]; rfl
theorem ordL_prices (ps : List (Int × Int × Int)) : (ordL ps).Pairwise (fun a b => pO ps a ≤ pO ps b) := by
  refine (ordL_is ps).sorted.imp fun {a b} h => ?_
  unfold lxK keyC at h
  rw [prcs_all, prcs_all] at h
  unfold pO; omega
/-- what all that is taken of offers costs, of each no more than so many -/
def dotM (xs : List Int) (ps : List (Int × Int × Int)) : List Int := (List.range ps.length).map fun j => (xs.getD j 0).tmod 65536 * (ps.getD j default).2.2
theorem dotM_take (xs : List Int) (ps : List (Int × Int × Int)) {k : Nat} (h : k < ps.length) : ((dotM xs ps).take (k + 1)).sum = ((dotM xs ps).take k).sum + (xs.getD k 0).tmod 65536 * (ps.getD k default).2.2 := by
  have hl : (dotM xs ps).length = ps.length := by simp [dotM]
  rw [take_sum (by rw [hl]; exact h)]
  congr 1
  simp [dotM, List.getD_eq_getElem?_getD, h]
theorem dotM_is {xs : List Int} {ps : List (Int × Int × Int)} (h : ∀ j : Nat, j < ps.length → 0 ≤ xs.getD j 0 ∧ xs.getD j 0 < 65536) : dotM xs ps = dotP xs ps := by
  refine List.map_congr_left fun j hj => ?_
  have := h j (List.mem_range.1 hj)
  rw [Int.tmod_eq_emod_of_nonneg this.1, Int.emod_eq_of_lt this.1 this.2]
theorem one_le_sum {xs : List Int} (h : ∀ z ∈ xs, 0 ≤ z) (j : Nat) : xs.getD j 0 ≤ xs.sum := by
  by_cases hj : j < xs.length
  · have h1 := take_sum hj
    have h2 := sum_nonneg (xs := xs.take j) fun z hz => h z (List.mem_of_mem_take hz)
    have h3 := take_le_sum h (j + 1)
    omega
  · rw [List.getD_eq_getElem?_getD, List.getElem?_eq_none (by omega)]
    exact sum_nonneg h
/-- what the law says at its end -/
theorem best_end {ps : List (Int × Int × Int)} {u : Int} {xs : List Int} (hE : wantE ps u = 0) (hu : u ≤ 32768) (hx : ∀ j : Nat, j < ps.length → 0 ≤ xs.getD j 0 ∧ xs.getD j 0 ≤ (ps.getD j default).2.1) (hl : xs.length = ps.length) :
    (xs.sum = u → (dotP (bestR ps u).1 ps).sum ≤ (dotM xs ps).sum) ∧ (bestR ps u).2 ≤ (dotP (bestR ps u).1 ps).sum / 10000 ∧ (dotP (bestR ps u).1 ps).sum / 10000 ≤ (bestR ps u).2 + (numP (bestR ps u).1 ps.length).sum := by
  obtain ⟨h0, h1, h2⟩ := want_0 hE
  obtain ⟨h40, hall⟩ := loan_0 h0
  have hb := best_is hE
  have od := ordL_is ps
  have hU : ∀ o ∈ ordL ps, 0 ≤ uO ps o := fun o ho => by have := uO_bd hall (od.mem.1 ho); omega
  have e1 : (dotP (bestR ps u).1 ps).sum = grc (uO ps) (pO ps) (ordL ps) u := by
    rw [← dotP_iota, ← iota_sum ps.length _ _ od.perm]
    exact grd_dot (uO ps) (pO ps) (fun o => (bestR ps u).1.getD o.toNat 0) _ _ hb.at_
  have e2 : (numP (bestR ps u).1 ps.length).sum = grn (uO ps) (ordL ps) u := by
    rw [← numP_iota, ← iota_sum ps.length _ _ od.perm]
    exact grd_num (uO ps) (fun o => (bestR ps u).1.getD o.toNat 0) _ _ hb.at_
  refine ⟨fun hs => ?_, ?_, ?_⟩
  · have hn := nn_of hl fun j hj => (hx j hj).1
    rw [dotM_is fun j hj => ⟨(hx j hj).1, by have := one_le_sum hn j; omega⟩, e1]
    have hxo : ∀ o ∈ ordL ps, 0 ≤ xs.getD o.toNat 0 ∧ xs.getD o.toNat 0 ≤ uO ps o := fun o ho => by
      have := od.mem.1 ho
      exact hx o.toNat (by omega)
    have hsx : ((ordL ps).map fun o => xs.getD o.toNat 0).sum = xs.sum := by rw [iota_sum ps.length _ _ od.perm, rsum_at hl]
    have hbest := grc_best (uO ps) (pO ps) (fun o => xs.getD o.toNat 0) (ordL ps) u 0 hxo (ordL_prices ps) (fun o ho => (uO_bd hall (od.mem.1 ho)).2.2.1) (by omega) (by rw [hsx]; omega)
    rw [Int.mul_zero, Int.add_zero, iota_sum ps.length _ _ od.perm, dotP_iota] at hbest
    exact hbest
  · rw [e1, hb.cost]; exact grf_le _ _ _ _
  · rw [e1, e2, hb.cost]
    have := grf_ge (uO ps) (pO ps) (ordL ps) u hU (by omega)
    have h3 := grn_le (uO ps) (ordL ps) u
    omega

set_option maxRecDepth 100000 in
set_option maxHeartbeats 1000000 in
theorem lbest_no (v : Value) (la : Option Addr) (ln lc : Nat) (ps : List (Int × Int × Int)) (u : Int) (w : World) (hr : ReadsP w v ps) (hE : wantE ps u ≠ 0) : Calls Try.prog 9 #[v, .int .i64 u, .slice la ln lc] w fun x w' => x = .returned (.bool true) ∧ Kpt w w' := by
  have B := Lib.hid (fun w' (k : Kpt w w') => best_bad v ps u w' (hr.kpt k) hE)
  have q : (wantE ps u != 0) = true := bne_iff_ne.2 hE
  have K0 : Hid (Kpt w w) := Kpt.refl w
  clear hr hE
  generalize wantE ps u = E at *
  go_enter Try.func9, Try.ntmps9
  go_wp2_with (first
    | (go_at_call 27; (with_reducible refine (B.out _ K0.out).mono ?_); rintro e w1 ⟨rfl, k1⟩; have K0 := Lib.hid (ktr K0.out k1); clear k1)
    | (go_at_call 34; (with_reducible refine (loanBegun _).mono ?_); rintro e w1 ⟨rfl, k1⟩; have K0 := Lib.hid (ktr K0.out k1); clear k1))
  go_ret
  exact ⟨rfl, K0.out⟩
set_option maxRecDepth 100000 in
set_option maxHeartbeats 2000000 in
theorem lbest_far (n : Nat) (b off cap : Nat) (c : Int) (lb : Option Addr) (ln lc : Nat) (hn : n ≤ 40) (hln : ln ≤ maxLen) (bs : List Int) (u : Int) (w : World) (h : ln ≠ n ∨ (ln = n ∧ 32768 < u))
    (B0 : ∀ w', Kpt w w' → Calls Try.prog 27 #[.slice (some ⟨b, off, none⟩) n cap, .int .i64 u] w' fun e w'' => ∃ g, e = .returned (.tuple #[.slice (some ⟨g, 0, none⟩) n n, .int .i64 c, .int .i64 0]) ∧ w'.heap.size ≤ g ∧ Row w'' g bs ∧ Kpt w' w'') :
    Calls Try.prog 9 #[.slice (some ⟨b, off, none⟩) n cap, .int .i64 u, .slice lb ln lc] w fun x w' => x = .returned (.bool true) ∧ Kpt w w' := by
  have B := Lib.hid B0
  have K0 : Hid (Kpt w w) := Kpt.refl w
  unfold maxLen at hln
  clear B0
  rcases h with h | ⟨rfl, h⟩
  · have q : ((ln : Int) != (n : Int)) = true := bne_iff_ne.2 (by omega)
    clear h
    go_enter Try.func9, Try.ntmps9
    go_wp2_with (first
      | (go_at_call 27; (with_reducible refine (B.out _ K0.out).mono ?_); rintro e w1 ⟨g, rfl, _, r1, k1⟩; have K0 := Lib.hid (ktr K0.out k1); clear k1 r1)
      | (go_at_call 34; (with_reducible refine (loanBegun _).mono ?_); rintro e w1 ⟨rfl, k1⟩; have K0 := Lib.hid (ktr K0.out k1); clear k1))
    go_ret
    exact ⟨rfl, K0.out⟩
  · have q : decide (32768 < u) = true := decide_eq_true h
    clear h
    go_enter Try.func9, Try.ntmps9
    go_wp2_with (first
      | (go_at_call 27; (with_reducible refine (B.out _ K0.out).mono ?_); rintro e w1 ⟨g, rfl, _, r1, k1⟩; have K0 := Lib.hid (ktr K0.out k1); clear k1 r1)
      | (go_at_call 34; (with_reducible refine (loanBegun _).mono ?_); rintro e w1 ⟨rfl, k1⟩; have K0 := Lib.hid (ktr K0.out k1); clear k1))
    go_ret
    exact ⟨rfl, K0.out⟩

/-- bounds of the sums on the way -/
structure Sums (ps : List (Int × Int × Int)) (bs os : List Int) (k : Nat) : Prop where
  s : 0 ≤ (os.take k).sum ∧ (os.take k).sum ≤ k * 1073741824
  m : 0 ≤ ((dotP bs ps).take k).sum ∧ ((dotP bs ps).take k).sum ≤ k * 72057594037927936
  a : 0 ≤ ((dotM os ps).take k).sum ∧ ((dotM os ps).take k).sum ≤ k * 72057594037927936
  n : 0 ≤ ((numP bs ps.length).take k).sum ∧ ((numP bs ps.length).take k).sum ≤ k
theorem sums_0 (ps : List (Int × Int × Int)) (bs os : List Int) : Sums ps bs os 0 := by
  constructor <;> simp
theorem mul_bdL {x p : Int} (h0 : 0 ≤ x) (h1 : x ≤ 65536) (p0 : 0 ≤ p) (p1 : p ≤ 1099511627776) : 0 ≤ x * p ∧ x * p ≤ 72057594037927936 := by
  refine ⟨Int.mul_nonneg h0 p0, ?_⟩
  have := Int.mul_le_mul h1 p1 p0 (by decide)
  omega
theorem tmod_bd {o : Int} (h : 0 ≤ o) : 0 ≤ o.tmod 65536 ∧ o.tmod 65536 ≤ 65536 := by
  rw [Int.tmod_eq_emod_of_nonneg h]; omega
theorem sums_s {ps : List (Int × Int × Int)} {bs os : List Int} {k : Nat} (h : Sums ps bs os k) (hk : k < ps.length) (hl : os.length = ps.length) (ho : 0 ≤ os.getD k 0 ∧ os.getD k 0 ≤ 1073741824) (hb : 0 ≤ bs.getD k 0 ∧ bs.getD k 0 ≤ 65536) (hp : 0 ≤ (ps.getD k default).2.2 ∧ (ps.getD k default).2.2 ≤ 1099511627776) : Sums ps bs os (k + 1) := by
  have h1 := mul_bdL hb.1 hb.2 hp.1 hp.2
  have h2 := mul_bdL (tmod_bd ho.1).1 (tmod_bd ho.1).2 hp.1 hp.2
  have hs := h.s
  have hm := h.m
  have ha := h.a
  refine ⟨?_, ?_, ?_, numP_bd bs _ _ (by omega)⟩
  · rw [take_sum (by omega)]; omega
  · rw [dotP_take bs ps hk]; omega
  · rw [dotM_take os ps hk]; omega

set_option maxRecDepth 100000 in
set_option maxHeartbeats 8000000 in
theorem lbest_ok (b off cap : Nat) (ps : List (Int × Int × Int)) (bs os : List Int) (c u : Int) (la : Option Addr) (lc : Nat) (w : World) (hp : 0 < ps.length) (h40 : ps.length ≤ 40) (u0 : 0 ≤ u) (u1 : u ≤ 32768) (hbl : bs.length = ps.length) (hol : os.length = ps.length)
    (hall : ∀ j : Nat, j < ps.length → (1 ≤ (ps.getD j default).2.1 ∧ (ps.getD j default).2.1 ≤ 1073741824) ∧ 0 ≤ (ps.getD j default).2.2 ∧ (ps.getD j default).2.2 ≤ 1099511627776) (hb : ∀ j : Nat, j < ps.length → 0 ≤ bs.getD j 0 ∧ bs.getD j 0 ≤ 65536) (hc0 : 0 ≤ c ∧ c ≤ 1152921504606846976)
    (hend : (∀ j : Nat, j < ps.length → 0 ≤ os.getD j 0 ∧ os.getD j 0 ≤ (ps.getD j default).2.1) → (os.sum = u → (dotP bs ps).sum ≤ (dotM os ps).sum) ∧ c ≤ (dotP bs ps).sum / 10000 ∧ (dotP bs ps).sum / 10000 ≤ c + (numP bs ps.length).sum)
    (hc : ∀ j, j < ps.length → PtAt w b (off + j * 3) (ps.getD j default)) (hl : Reads w (.slice la ps.length lc) os)
    (B0 : ∀ w', Kpt w w' → Calls Try.prog 27 #[.slice (some ⟨b, off, none⟩) ps.length cap, .int .i64 u] w' fun e w'' => ∃ g, e = .returned (.tuple #[.slice (some ⟨g, 0, none⟩) ps.length ps.length, .int .i64 c, .int .i64 0]) ∧ w'.heap.size ≤ g ∧ Row w'' g bs ∧ Kpt w' w'') :
    Calls Try.prog 9 #[.slice (some ⟨b, off, none⟩) ps.length cap, .int .i64 u, .slice la ps.length lc] w fun x w' => x = .returned (.bool true) ∧ Kpt w w' := by
  have B := Lib.hid B0
  have HC := Lib.hid hc
  have HALL := Lib.hid hall
  have HBB := Lib.hid hb
  have LB := Lib.hid hbl
  have LO := Lib.hid hol
  have HEND := Lib.hid hend
  have HL := Lib.hid hl.sl
  have K0 : Hid (Kpt w w) := Kpt.refl w
  have q1 : decide (32768 < u) = false := decide_eq_false (by omega)
  have q2 : ((ps.length : Int) != (ps.length : Int)) = false := by simp
  have DPL : Hid ((dotP bs ps).take ps.length = dotP bs ps) := List.take_of_length_le (by simp [dotP])
  have DML : Hid ((dotM os ps).take ps.length = dotM os ps) := List.take_of_length_le (by simp [dotM])
  have NPL : Hid ((numP bs ps.length).take ps.length = numP bs ps.length) := List.take_of_length_le (by simp [numP])
  have OSL : Hid (os.take ps.length = os) := List.take_of_length_le (by omega)
  obtain ⟨c0, c1⟩ := hc0
  clear B0 hc hall hb hbl hol hend hl
  go_enter Try.func9, Try.ntmps9
  go_wp2_with (first
    | (go_at_call 27; (with_reducible refine (B.out _ K0.out).mono ?_); rintro e w1 ⟨g, rfl, _, r1, k1⟩; have K0 := Lib.hid (ktr K0.out k1); have R0 := Lib.hid r1; clear k1 r1)
    | (go_at_call 34; (with_reducible refine (loanBegun _).mono ?_); rintro e w1 ⟨rfl, k1⟩; have K0 := Lib.hid (ktr K0.out k1); have R0 := Lib.hid (Row.kptL R0.out k1); clear k1))
  go_loopw [10, 11, 12, 13, 14] (fun vs vm va vn vi wr => ∃ (k : Nat) (s m a n : Int), k ≤ ps.length ∧ vi = .int .i64 k ∧ vs = .int .i64 s ∧ vm = .int .i64 m ∧ va = .int .i64 a ∧ vn = .int .i64 n ∧ Hid (s = (os.take k).sum ∧ m = ((dotP bs ps).take k).sum ∧ a = ((dotM os ps).take k).sum ∧ n = ((numP bs ps.length).take k).sum) ∧ Hid (Sums ps bs os k) ∧ Hid (∀ j : Nat, j < k → 0 ≤ os.getD j 0 ∧ os.getD j 0 ≤ (ps.getD j default).2.1) ∧ Hid (Row wr g bs) ∧ Hid (Kpt w wr)) (fun _ _ _ _ vi _ => ps.length - (intOf vi).toNat)
  case atStart => exact ⟨0, 0, 0, 0, 0, Nat.zero_le _, rfl, rfl, rfl, rfl, rfl, ⟨by simp, by simp, by simp, by simp⟩, sums_0 _ _ _, fun j hj => absurd hj (Nat.not_lt_zero j), R0.out, K0.out⟩
  case round =>
    obtain ⟨k, s, m, a, n, hk, rfl, rfl, rfl, rfl, rfl, HS, HSU, HA, HR, HK⟩ := hrel
    clear R0 K0
    have su := HSU.out
    rw [show Sums ps bs os k ↔ Sums ps bs os k from Iff.rfl] at su
    have bS := su.s
    have bM := su.m
    have bA := su.a
    have bN := su.n
    rw [← HS.out.1] at bS
    rw [← HS.out.2.1] at bM
    rw [← HS.out.2.2.1] at bA
    rw [← HS.out.2.2.2] at bN
    clear su
    by_cases hlt : k < ps.length
    · obtain ⟨xb, xo, rfl, cx⟩ := HL.out k (by rw [LO.out]; exact hlt)
      have cO := HK.out.cell cx
      have cB := HR.out.cell (j := k) (by rw [LB.out]; exact hlt)
      obtain ⟨-, cU, cP⟩ := (HC.out k hlt).kpt HK.out
      have ha := HALL.out k hlt
      have hbb := HBB.out k hlt
      have HA2 : Hid (0 ≤ os.getD k 0 ∧ os.getD k 0 ≤ (ps.getD k default).2.1 → ∀ j : Nat, j < k + 1 → 0 ≤ os.getD j 0 ∧ os.getD j 0 ≤ (ps.getD j default).2.1) := fun h j hj => by
        rcases Nat.lt_or_ge j k with g | g
        · exact HA.out j g
        · obtain rfl : j = k := by omega
          exact h
      have HSU2 : Hid (0 ≤ os.getD k 0 ∧ os.getD k 0 ≤ 1073741824 → Sums ps bs os (k + 1)) := fun h => sums_s HSU.out hlt LO.out h hbb ha.2
      have T1 := Lib.hid (take_sum (xs := os) (k := k) (by rw [LO.out]; exact hlt))
      have T2 := Lib.hid (dotP_take bs ps hlt)
      have T3 := Lib.hid (dotM_take os ps hlt)
      have T4 := Lib.hid (numP_take bs hlt)
      clear cx
      generalize os.getD k 0 = o at *
      generalize bs.getD k 0 = t at *
      generalize (ps.getD k default).2.1 = U at *
      generalize (ps.getD k default).2.2 = C at *
      have k0 : (0 : Int) ≤ (k : Int) := by omega
      have k1 : (k : Int) < ps.length := by omega
      by_cases o0 : o < 0
      · have d1 : decide (o < 0) = true := decide_eq_true o0
        clear ha hbb bS bM bA bN
        go_wp2
        go_quiet (fail)
        go_wp2
        go_ret
        exact ⟨rfl, HK.out.drewN _⟩
      · have d1 : decide (o < 0) = false := decide_eq_false o0
        by_cases oU : U < o
        · have d2 : decide (U < o) = true := decide_eq_true oU
          clear ha hbb bS bM bA bN
          go_wp2
          go_quiet (fail)
          go_wp2
          go_ret
          exact ⟨rfl, HK.out.drewN _⟩
        · have d2 : decide (U < o) = false := decide_eq_false oU
          have HA3 := Lib.hid (HA2.out ⟨by omega, by omega⟩)
          have HSU3 := Lib.hid (HSU2.out ⟨by omega, by omega⟩)
          have zb := tmod_bd (o := o) (by omega)
          have hx := mul_bdL hbb.1 hbb.2 ha.2.1 ha.2.2
          have hy := mul_bdL zb.1 zb.2 ha.2.1 ha.2.2
          have HKN : Hid (((k : Nat) : Int) + 1 = ((k + 1 : Nat) : Int)) := by unfold Hid; omega
          obtain ⟨z, hz⟩ : ∃ z, o.tmod 65536 = z := ⟨_, rfl⟩
          rw [hz] at zb hy T3
          obtain ⟨x, hxx⟩ : ∃ x, t * C = x := ⟨_, rfl⟩
          rw [hxx] at hx T2
          obtain ⟨y, hyy⟩ : ∃ y, z * C = y := ⟨_, rfl⟩
          rw [hyy] at hy T3
          have hk40 : (k : Int) ≤ 40 := by omega
          have m0 : IntKind.i64.wrap z = z := IntWalk.i64_in _ (by omega)
          have m1 : IntKind.i64.wrap x = x := IntWalk.i64_in _ (by omega)
          have m2 : IntKind.i64.wrap y = y := IntWalk.i64_in _ (by omega)
          have m3 : IntKind.i64.wrap (a + y) = a + y := IntWalk.i64_in _ (by omega)
          have m4 : IntKind.i64.wrap (m + x) = m + x := IntWalk.i64_in _ (by omega)
          have m5 : IntKind.i64.wrap (s + o) = s + o := IntWalk.i64_in _ (by omega)
          have m6 : IntKind.i64.wrap (n + 1) = n + 1 := IntWalk.i64_in _ (by omega)
          have E1 : Hid (s + o = (os.take (k + 1)).sum) := by unfold Hid; rw [T1.out, HS.out.1]
          have E2 : Hid (m + x = ((dotP bs ps).take (k + 1)).sum) := by unfold Hid; rw [T2.out, HS.out.2.1]
          have E3 : Hid (a + y = ((dotM os ps).take (k + 1)).sum) := by unfold Hid; rw [T3.out, HS.out.2.2.1]
          by_cases t0 : 0 < t
          · have d3 : decide (0 < t) = true := decide_eq_true t0
            have E4 : Hid (n + 1 = ((numP bs ps.length).take (k + 1)).sum) := by unfold Hid; rw [T4.out, if_pos t0, HS.out.2.2.2]
            clear ha hbb bS bM bA bN zb hx hy o0 oU t0
            go_wp2
            go_quiet (fail)
            go_wp2
            go_quiet (fail)
            go_wp2
            go_quiet (fail)
            go_wp2
            go_roundw
            case rel => exact ⟨k + 1, s + o, m + x, a + y, n + 1, by omega, by go_num, rfl, rfl, rfl, rfl, ⟨E1.out, E2.out, E3.out, E4.out⟩, HSU3.out, HA3.out, HR.out.below (below_drewN (Below.refl _ _) _) HR.out.lt, HK.out.drewN _⟩
            case measure => simp [intOf]; omega
          · have d3 : decide (0 < t) = false := decide_eq_false t0
            have E4 : Hid (n = ((numP bs ps.length).take (k + 1)).sum) := by unfold Hid; rw [T4.out, if_neg t0, HS.out.2.2.2, Int.add_zero]
            clear ha hbb bS bM bA bN zb hx hy o0 oU t0
            go_wp2
            go_quiet (fail)
            go_wp2
            go_quiet (fail)
            go_wp2
            go_quiet (fail)
            go_wp2
            go_roundw
            case rel => exact ⟨k + 1, s + o, m + x, a + y, n, by omega, by go_num, rfl, rfl, rfl, rfl, ⟨E1.out, E2.out, E3.out, E4.out⟩, HSU3.out, HA3.out, HR.out.below (below_drewN (Below.refl _ _) _) HR.out.lt, HK.out.drewN _⟩
            case measure => simp [intOf]; omega
    · obtain rfl : k = ps.length := by omega
      have he := HEND.out HA.out
      have hs := HS.out
      rw [DPL.out, DML.out, NPL.out, OSL.out] at hs
      rw [← hs.1, ← hs.2.1, ← hs.2.2.1, ← hs.2.2.2] at he
      obtain ⟨h1, h2, h3⟩ := he
      have m1 : IntKind.i64.wrap (c + n) = c + n := IntWalk.i64_in _ (by omega)
      have d2 : decide (c ≤ m / 10000) = true := decide_eq_true h2
      have d3 : decide (m / 10000 ≤ c + n) = true := decide_eq_true h3
      obtain ⟨m0', m1'⟩ := bM
      clear h2 h3 hs
      by_cases hsu : s = u
      · have q : (s != u) = false := by simpa using hsu
        have d1 : decide (m ≤ a) = true := decide_eq_true (h1 hsu)
        clear h1 hsu
        go_wp2
        go_ret
        exact ⟨rfl, HK.out⟩
      · have q : (s != u) = true := bne_iff_ne.2 hsu
        clear h1 hsu
        go_wp2
        go_ret
        exact ⟨rfl, HK.out⟩

theorem lbest_plain (v : Value) (u : Int) (la : Value) (ps : List (Int × Int × Int)) (os : List Int) (w : World) (hr : ReadsP w v ps) (hl : Reads w la os) : Calls Try.prog 9 #[v, .int .i64 u, la] w fun x w' => x = .returned (.bool true) ∧ Kpt w w' := by
  obtain ⟨lb, lc, rfl, hlm, -⟩ := id hl
  by_cases hE : wantE ps u = 0
  · obtain ⟨h0, h1, h2⟩ := want_0 hE
    obtain ⟨h40, hall⟩ := loan_0 h0
    have hb := best_is hE
    have hw := unts_E hE
    have hp : 0 < ps.length := by
      have := List.length_pos_iff.2 (wts_ok hw).1
      rwa [unts_len] at this
    rcases id hr.cell with ⟨e, _⟩ | ⟨_, b, off, cap, rfl, hc⟩
    · rw [e] at hp; simp at hp
    · have B0 := fun w' (k : Kpt w w') => best_ok _ ps u w' (hr.kpt k) hE
      by_cases hn : os.length = ps.length
      · by_cases hu : 32768 < u
        · exact lbest_far ps.length b off cap _ lb os.length lc h40 hlm _ u w (.inr ⟨hn, hu⟩) B0
        · have hba : ∀ j : Nat, j < ps.length → (1 ≤ (ps.getD j default).2.1 ∧ (ps.getD j default).2.1 ≤ 1073741824) ∧ 0 ≤ (ps.getD j default).2.2 ∧ (ps.getD j default).2.2 ≤ 1099511627776 := fun j hj => by
            have := off_t (hall _ (getP_mem hj))
            exact ⟨⟨this.2.2.1, this.2.2.2.1⟩, this.2.2.2.2.1, this.2.2.2.2.2⟩
          have hbn := nn_of hb.len fun j hj => (hb.bd j hj).1
          have hbb : ∀ j : Nat, j < ps.length → 0 ≤ (bestR ps u).1.getD j 0 ∧ (bestR ps u).1.getD j 0 ≤ 65536 := fun j hj => by
            have h3 := one_le_sum hbn j
            rw [hb.sum] at h3
            exact ⟨(hb.bd j hj).1, by omega⟩
          have od := ordL_is ps
          have hc0 : 0 ≤ (bestR ps u).2 := by
            rw [hb.cost]
            exact grf_nn _ _ _ _ (fun o ho => by have := uO_bd hall (od.mem.1 ho); exact ⟨by omega, this.2.2.1⟩) (by omega)
          have hc1 : (bestR ps u).2 ≤ 1152921504606846976 := by
            have h3 := (best_end (xs := (bestR ps u).1) hE (by omega) (fun j hj => hb.bd j hj) hb.len).2.1
            have h4 : ∀ z ∈ dotP (bestR ps u).1 ps, z ≤ 72057594037927936 := fun z hz => by
              unfold dotP at hz
              obtain ⟨j, hj, rfl⟩ := List.mem_map.1 hz
              have hj := List.mem_range.1 hj
              exact (mul_bdL (hbb j hj).1 (hbb j hj).2 (hba j hj).2.1 (hba j hj).2.2).2
            have h5 := sum_le h4
            have h6 : (dotP (bestR ps u).1 ps).length = ps.length := by simp [dotP]
            rw [h6] at h5
            omega
          have hl' : Reads w (.slice lb ps.length lc) os := by rw [← hn]; exact hl
          rw [hn]
          exact lbest_ok b off cap ps (bestR ps u).1 os (bestR ps u).2 u lb lc w hp h40 (by omega) (by omega) hb.len hn hba hbb ⟨hc0, hc1⟩ (fun hx => best_end hE (by omega) hx hn) hc hl' B0
      · exact lbest_far ps.length b off cap _ lb os.length lc h40 hlm _ u w (.inl hn) B0
  · exact lbest_no v lb os.length lc ps u w hr hE

end Go.Proofs.Ytmecggncedhehaa
