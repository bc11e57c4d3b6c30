/-
  Merged: LoanE, LoanMath, LoanH, LoanN.
-/
import Derived.Test.YtmecggncedhehaaMla
import Derived.Test.YtmecggncedhehaaCost
import Derived.Test.YtmecggncedhehaaQuietK
import Derived.Deep.Cut
import Derived.Test.YtmecggncedhehaaSameInts
-- LoanE
namespace Go.Proofs.Ytmecggncedhehaa
open Go.RowKit Go.Lib
set_option linter.unusedVariables false

/-- taken of these places, in this order, what is there, until it is enough; what it costs -/
def bestF (ps : List (Int × Int × Int)) : List Int → Int → List Int → Int → List Int × Int
  | [], _, tk, s => (tk, s)
  | o :: os, u, tk, s => bestF ps os (u - min u (ps.getD o.toNat default).2.1) (tk.set o.toNat (min u (ps.getD o.toNat default).2.1)) (s + min u (ps.getD o.toNat default).2.1 * (ps.getD o.toNat default).2.2 / 10000)
def bestR (ps : List (Int × Int × Int)) (u : Int) : List Int × Int := bestF ps (ordK ps.length (keyC (prcs ps))) u (List.replicate ps.length 0) 0

set_option maxRecDepth 100000 in
theorem best_bad (v : Value) (ps : List (Int × Int × Int)) (u : Int) (w : World) (hr : ReadsP w v ps) (hE : wantE ps u ≠ 0) : Calls Try.prog 27 #[v, .int .i64 u] w fun e w' => e = .returned (.tuple #[.slice none 0 0, .int .i64 0, .int .i64 (wantE ps u)]) ∧ Kpt w w' := by
  have C := Lib.hid (want_any v ps u w hr)
  have q : (wantE ps u != 0) = true := bne_iff_ne.2 hE
  clear hr
  generalize wantE ps u = E at *
  go_enter Try.func27, Try.ntmps27
  go_wp2_with (go_at_call 77; (with_reducible refine C.out.mono ?_); rintro e w1 ⟨rfl, k1⟩; have K1 := Lib.hid k1; clear k1)
  go_ret3
  exact ⟨rfl, K1.out⟩

theorem cost_le {t C : Int} (h0 : 0 ≤ t) (h1 : 0 ≤ C) (h2 : C ≤ 1099511627776) : 0 ≤ t * C / 10000 ∧ t * C / 10000 ≤ t * 109951163 := by
  refine ⟨Int.ediv_nonneg (Int.mul_nonneg h0 h1) (by decide), ?_⟩
  have h3 : t * C ≤ t * 1099511627776 := Int.mul_le_mul_of_nonneg_left h2 h0
  have h4 : t * C / 10000 ≤ t * 1099511627776 / 10000 := Int.ediv_le_ediv (by decide) h3
  omega

set_option maxRecDepth 100000 in
set_option maxHeartbeats 2000000 in
theorem best_ok (v : Value) (ps : List (Int × Int × Int)) (u : Int) (w : World) (hr : ReadsP w v ps) (hE : wantE ps u = 0) : Calls Try.prog 27 #[v, .int .i64 u] w fun e w' => ∃ g, e = .returned (.tuple #[.slice (some ⟨g, 0, none⟩) ps.length ps.length, .int .i64 (bestR ps u).2, .int .i64 0]) ∧ w.heap.size ≤ g ∧ Row w' g (bestR ps u).1 ∧ Kpt w w' := by
  have C := Lib.hid (want_any v ps u w hr)
  rw [hE] at C
  obtain ⟨h0, h1, h2⟩ := want_0 hE
  obtain ⟨h40, hall⟩ := loan_0 h0
  have hpos : 0 < ps.length := by
    rcases Nat.eq_zero_or_pos ps.length with e | e
    · exfalso
      have : unts ps = [] := List.eq_nil_of_length_eq_zero (by rw [unts_len, e])
      rw [this] at h2; simp at h2; omega
    · exact e
  rcases hr.cell with ⟨e, _⟩ | ⟨_, b, off, cap, rfl, hc⟩
  · rw [e] at hpos; simp at hpos
  have HC := Lib.hid hc
  have OD := ordK_is ps.length (keyC (prcs ps))
  have HOL := Lib.hid OD.len
  have HOB := Lib.hid (fun j hj => OD.bd (j := j) hj)
  have CF : Hid (∀ w', Kpt w w' → Calls Try.prog 80 #[.slice (some ⟨b, off, none⟩) ps.length cap] w' fun e w'' => ∃ O, e = .returned (.slice (some ⟨O, 0, none⟩) ps.length ps.length) ∧ w'.heap.size ≤ O ∧ Row w'' O (ordK ps.length (keyC (prcs ps))) ∧ Kpt w' w'') := fun w' k => by
    refine (cheapest_any b off cap ps.length (prcs ps) w' (prcs_len ps) hpos h40 (fun j hj => by rw [prcs_at hj]; exact ((hc j hj).kpt k).2.2)).mono ?_
    rintro e w'' ⟨O, rfl, hO, r, bb⟩
    rw [OD.len]
    exact ⟨O, rfl, hO, r, bb⟩
  have HALL : Hid (∀ j, j < ps.length → offB (ps.getD j default) = true) := fun j hj => hall _ (by rw [List.getD_eq_getElem?_getD, List.getElem?_eq_getElem hj]; simp)
  obtain ⟨R1, R2, hR⟩ : ∃ R1 R2, bestR ps u = (R1, R2) := ⟨_, _, rfl⟩
  rw [hR]
  have HR0 : Hid (bestF ps ((ordK ps.length (keyC (prcs ps))).drop 0) u (List.replicate ps.length 0) 0 = (R1, R2)) := hR
  clear hR OD hc hr hE h0 hall h2
  generalize ordK ps.length (keyC (prcs ps)) = os at *
  have DR : Hid (∀ k, k < os.length → os.drop k = os.getD k 0 :: os.drop (k + 1)) := fun k hk => by
    rw [List.drop_eq_getElem_cons hk, List.getD_eq_getElem?_getD, List.getElem?_eq_getElem hk]; rfl
  have DE : Hid (os.drop ps.length = []) := by unfold Hid; rw [← HOL.out]; exact List.drop_length
  have mixed : Try.prog.follows .mixedOrders = true := by kernel_rfl
  go_enter Try.func27, Try.ntmps27
  go_wp2_with (first
    | (go_at_call 77; (with_reducible refine C.out.mono ?_); rintro e w1 ⟨rfl, k1⟩; have K1 := Lib.hid k1; clear k1; have MK := run_zeros w1 ps.length (by omega); have KA : Hid (Kpt w (w1.alloc (.cells (Array.replicate ps.length (Value.int .i64 0)) 3))) := K1.out.alloc _)
    | (go_at_call 80; (with_reducible refine (CF.out _ KA.out).mono ?_); rintro e w2 ⟨O, rfl, hO, rO, k2⟩; have RO := Lib.hid rO; have K2 := Lib.hid (ktr KA.out k2); have RG : Hid (Row w2 w1.heap.size (List.replicate ps.length 0)) := (Row.made w1 ps.length).below k2 (by simp); clear rO k2))
  have hGO : w1.heap.size ≠ O := by rw [World.size_alloc] at hO; omega
  have hGw : w.heap.size ≤ w1.heap.size := K1.out.size
  generalize w1.heap.size = G at *
  clear MK KA K1
  go_loopw [1, 9, 27] (fun v1 v9 i wr => ∃ (k : Nat) (x s : Int) (tk : List Int), k ≤ ps.length ∧ v1 = .int .i64 x ∧ v9 = .int .i64 s ∧ i = .int .i64 k ∧ 0 ≤ x ∧ x ≤ 1073741824 ∧ 0 ≤ s ∧ s ≤ (1073741824 - x) * 109951163 ∧ Hid (tk.length = ps.length) ∧ Hid (bestF ps (os.drop k) x tk s = (R1, R2)) ∧ Hid (Row wr G tk) ∧ Hid (Row wr O os) ∧ Hid (Kpt w wr)) (fun _ _ i _ => ps.length - (intOf i).toNat)
  case atStart => exact ⟨0, u, 0, _, Nat.zero_le _, rfl, rfl, rfl, by omega, by omega, by omega, by omega, List.length_replicate, HR0.out, RG.out, RO.out, K2.out⟩
  case round =>
    obtain ⟨k, x, s, tk, hk, rfl, rfl, rfl, x0, x1, s0, s1, HTL, HE, HG, HO, HK⟩ := hrel
    by_cases hlt : k < ps.length
    · have hko : k < os.length := by rw [HOL.out]; exact hlt
      have c1 := HO.out.cell hko
      have ob := HOB.out k hko
      have he := HE.out
      rw [DR.out k hko] at he
      generalize os.getD k 0 = o at c1 ob he
      obtain ⟨q, rfl⟩ : ∃ q : Nat, o = (q : Int) := ⟨o.toNat, by omega⟩
      have hq : q < ps.length := by omega
      have hq1 : (q : Int) < ps.length := by omega
      have hq0 : (0 : Int) ≤ (q : Int) := by omega
      unfold bestF at he
      rw [Int.toNat_natCast] at he
      have hp := HC.out q hq
      obtain ⟨p0, p1, p2⟩ := hp.kpt HK.out
      have hb := off_t (HALL.out q hq)
      generalize ps.getD q default = p at p0 p1 p2 hb he hp
      obtain ⟨P, U, D⟩ := p
      simp only at p0 p1 p2 hb he
      have HPT := Lib.hid hp
      clear hp
      obtain ⟨t, ht⟩ : ∃ t, min x U = t := ⟨_, rfl⟩
      have t0 : 0 ≤ t := by omega
      have t1 : t ≤ x := by omega
      have cb := cost_le t0 hb.2.2.2.2.1 hb.2.2.2.2.2
      rw [ht] at he
      have HE2 := Lib.hid he
      have cd := cos_dly (u := t) (p := D) (by omega)
      rw [if_pos (prc_mk hb.2.2.2.2.1 hb.2.2.2.2.2), if_pos (prc_mk hb.2.2.2.2.1 hb.2.2.2.2.2)] at cd
      have CS := Lib.hid (fun w' => cost_any t D w')
      rw [cd.1, cd.2] at CS
      have g1 := HG.out.cell (j := q) (by rw [HTL.out]; exact hq)
      have gf := HG.out.frozen q
      clear he cd HE
      generalize t * D / 10000 = cost at *
      go_upto_region 10 with fail
      have HG2 : Hid (Row (wr.setCell ⟨G, q, none⟩ (.int .i64 t)) G (tk.set q t)) := HG.out.put q t
      have HO2 : Hid (Row (wr.setCell ⟨G, q, none⟩ (.int .i64 t)) O os) := HO.out.away (fun e => hGO e.symm) _
      have HK2 : Hid (Kpt w (wr.setCell ⟨G, q, none⟩ (.int .i64 t))) := HK.out.setCell hGw _
      clear g1 gf c1 p0 p1 p2 HG HO HK
      generalize wr.setCell ⟨G, q, none⟩ (.int .i64 t) = W1 at *
      have p2 := cell_k (q := W1) (a := ⟨b, off + q * 3 + 2, none⟩) (v := .int .i64 D) (HPT.out.kpt HK2.out).2.2
      have b1 := cell_k (q := W1) (a := ⟨G, q, none⟩) (v := .int .i64 t) (by
        have h := HG2.out.cell (j := q) (by rw [List.length_set, HTL.out]; exact hq)
        rw [List.getD_eq_getElem?_getD, List.getElem?_set_self (by rw [HTL.out]; exact hq)] at h
        exact h)
      have CK := Lib.hid (fun (p : KptTo W1) => CS.out p.w)
      refine quiet_k (q := W1) mixed (by kernel_rfl) ?_
      repeat (quiet_step (first | (go_at_call 39; with_reducible refine calls_k (CK.out _))))
      refine wpQuiet_nil ?_
      intro w8 hw1
      obtain ⟨⟨wz, kz⟩, hw2⟩ := hw1
      have hw3 : w8 = wz := hw2
      clear hw2
      subst hw3
      clear p2 b1 CK
      have HG3 := Lib.hid (HG2.out.below kz HG2.out.lt)
      have HO3 := Lib.hid (HO2.out.below kz HO2.out.lt)
      have HK3 := Lib.hid (ktr HK2.out kz)
      have HTL2 : Hid ((tk.set q t).length = ps.length) := by unfold Hid; rw [List.length_set]; exact HTL.out
      go_wp2
      go_roundw
      case rel => exact ⟨k + 1, x - t, s + cost, tk.set q t, by omega, rfl, rfl, by go_num, by omega, by omega, by omega, by omega, HTL2.out, HE2.out, HG3.out, HO3.out, HK3.out⟩
      case measure => simp [intOf]; omega
    · obtain rfl : k = ps.length := by omega
      have he := HE.out
      rw [DE.out] at he
      have he2 : (tk, s) = (R1, R2) := he
      injection he2 with e1 e2
      subst e1 e2
      clear he
      go_wp2
      go_ret3
      exact ⟨G, rfl, hGw, HG.out, HK.out⟩

end Go.Proofs.Ytmecggncedhehaa

-- LoanMath
namespace Go.Proofs.Ytmecggncedhehaa
set_option linter.unusedVariables false

/-- what is taken at these places, in this order, until it is enough -/
def grd (U : Int → Int) : List Int → Int → List Int
  | [], _ => []
  | o :: os, u => min u (U o) :: grd U os (u - min u (U o))
/-- what it costs, before anything is lost -/
def grc (U p : Int → Int) : List Int → Int → Int
  | [], _ => 0
  | o :: os, u => min u (U o) * p o + grc U p os (u - min u (U o))
/-- what it costs -/
def grf (U p : Int → Int) : List Int → Int → Int
  | [], _ => 0
  | o :: os, u => min u (U o) * p o / 10000 + grf U p os (u - min u (U o))
theorem smap_nonneg : ∀ (os : List Int) (x : Int → Int), (∀ o ∈ os, 0 ≤ x o) → 0 ≤ (os.map x).sum
  | [], _, _ => by simp
  | o :: os, x, h => by
    have h0 := h o (by simp)
    have ih := smap_nonneg os x (fun y hy => h y (by simp [hy]))
    simp only [List.map_cons, List.sum_cons]; omega
theorem grd_sum (U : Int → Int) : ∀ (os : List Int) (u : Int), (∀ o ∈ os, 0 ≤ U o) → 0 ≤ u → (grd U os u).sum = min u (os.map U).sum
  | [], u, _, h => by simp [grd]; omega
  | o :: os, u, hU, h => by
    have h0 := hU o (by simp)
    have ih := grd_sum U os (u - min u (U o)) (fun x hx => hU x (by simp [hx])) (by omega)
    have h1 : 0 ≤ (os.map U).sum := by
      clear ih
      induction os with
      | nil => simp
      | cons a l ih => simp; have := hU a (by simp); have := ih (fun x hx => hU x (by simp at hx ⊢; rcases hx with h | h <;> simp [h])); omega
    simp only [grd, List.sum_cons, List.map_cons, ih]
    omega
theorem grd_bd (U : Int → Int) : ∀ (os : List Int) (u : Int), (∀ o ∈ os, 0 ≤ U o) → 0 ≤ u → ∀ j, 0 ≤ (grd U os u).getD j 0 ∧ (grd U os u).getD j 0 ≤ (os.map U).getD j 0
  | [], u, _, _, j => by simp [grd]
  | o :: os, u, hU, h, j => by
    have h0 := hU o (by simp)
    cases j with
    | zero => simp [grd]; omega
    | succ j => simpa [grd] using grd_bd U os (u - min u (U o)) (fun x hx => hU x (by simp [hx])) (by omega) j
theorem grc_best (U p x : Int → Int) : ∀ (os : List Int) (u q : Int), (∀ o ∈ os, 0 ≤ x o ∧ x o ≤ U o) → os.Pairwise (fun a b => p a ≤ p b) → (∀ o ∈ os, q ≤ p o) → 0 ≤ u → u ≤ (os.map x).sum →
    grc U p os u + ((os.map x).sum - u) * q ≤ (os.map fun o => x o * p o).sum
  | [], u, q, _, _, _, h0, h1 => by
    simp at h1
    obtain rfl : u = 0 := by omega
    simp [grc]
  | o :: os, u, q, hx, hp, hq, h0, h1 => by
    have hx0 := hx o (by simp)
    have hq0 := hq o (by simp)
    have hp' := List.pairwise_cons.1 hp
    simp only [List.map_cons, List.sum_cons] at h1 ⊢
    have e : ∃ a, a = min u (U o) := ⟨_, rfl⟩
    obtain ⟨a, ha⟩ := e
    simp only [grc]
    rw [← ha]
    have hX : 0 ≤ (os.map x).sum := smap_nonneg os x (fun y hy => (hx y (by simp [hy])).1)
    have ih := grc_best U p x os (u - a) (p o) (fun y hy => hx y (by simp [hy])) hp'.2 (fun y hy => hp'.1 y hy) (by omega) (by omega)
    generalize (os.map x).sum = X at *
    generalize (os.map fun o => x o * p o).sum = C at *
    generalize grc U p os (u - a) = G at *
    generalize p o = P at *
    generalize x o = y at *
    have e1 : (X - (u - a)) * P = X * P - u * P + a * P := by rw [Int.sub_mul, Int.sub_mul]; omega
    have e2 : (y + X - u) * q ≤ (y + X - u) * P := Int.mul_le_mul_of_nonneg_left hq0 (by omega)
    have e3 : (y + X - u) * P = y * P + X * P - u * P := by rw [Int.sub_mul, Int.add_mul]
    omega
theorem grf_le (U p : Int → Int) : ∀ (os : List Int) (u : Int), grf U p os u ≤ grc U p os u / 10000
  | [], u => by simp [grf, grc]
  | o :: os, u => by
    have ih := grf_le U p os (u - min u (U o))
    simp only [grf, grc]
    omega
/-- of how many some are taken -/
def grn (U : Int → Int) : List Int → Int → Int
  | [], _ => 0
  | o :: os, u => (if 0 < min u (U o) then 1 else 0) + grn U os (u - min u (U o))
theorem grf_ge (U p : Int → Int) : ∀ (os : List Int) (u : Int), (∀ o ∈ os, 0 ≤ U o) → 0 ≤ u → grc U p os u ≤ grf U p os u * 10000 + grn U os u * 9999
  | [], u, _, _ => by simp [grf, grc, grn]
  | o :: os, u, hU, h => by
    have h0 := hU o (by simp)
    have ih := grf_ge U p os (u - min u (U o)) (fun x hx => hU x (by simp [hx])) (by omega)
    simp only [grf, grc, grn]
    split
    · omega
    · have : min u (U o) = 0 := by omega
      rw [this] at ih ⊢
      omega
theorem grn_le (U : Int → Int) : ∀ (os : List Int) (u : Int), 0 ≤ grn U os u ∧ grn U os u ≤ os.length
  | [], u => by simp [grn]
  | o :: os, u => by
    have ih := grn_le U os (u - min u (U o))
    simp only [grn, List.length_cons]
    split <;> omega
theorem grf_mono (U p : Int → Int) : ∀ (os : List Int) (u v : Int), (∀ o ∈ os, 0 ≤ U o ∧ 0 ≤ p o) → 0 ≤ u → u ≤ v → grf U p os u ≤ grf U p os v
  | [], u, v, _, _, _ => by simp [grf]
  | o :: os, u, v, hU, h0, h1 => by
    have h2 := hU o (by simp)
    have ih := grf_mono U p os (u - min u (U o)) (v - min v (U o)) (fun x hx => hU x (by simp [hx])) (by omega) (by omega)
    simp only [grf]
    have h3 : min u (U o) * p o ≤ min v (U o) * p o := Int.mul_le_mul_of_nonneg_right (by omega) h2.2
    have h4 := Int.ediv_le_ediv (c := 10000) (by decide) h3
    omega
theorem grf_nn (U p : Int → Int) : ∀ (os : List Int) (u : Int), (∀ o ∈ os, 0 ≤ U o ∧ 0 ≤ p o) → 0 ≤ u → 0 ≤ grf U p os u
  | [], u, _, _ => by simp [grf]
  | o :: os, u, hU, h0 => by
    have h2 := hU o (by simp)
    have ih := grf_nn U p os (u - min u (U o)) (fun x hx => hU x (by simp [hx])) (by omega)
    simp only [grf]
    have h3 : 0 ≤ min u (U o) * p o := Int.mul_nonneg (by omega) h2.2
    have h4 := Int.ediv_nonneg h3 (show (0 : Int) ≤ 10000 by decide)
    omega

def uO (ps : List (Int × Int × Int)) (o : Int) : Int := (ps.getD o.toNat default).2.1
def pO (ps : List (Int × Int × Int)) (o : Int) : Int := (ps.getD o.toNat default).2.2
theorem bestF_cost (ps : List (Int × Int × Int)) : ∀ (os : List Int) (u : Int) (tk : List Int) (s : Int), (bestF ps os u tk s).2 = s + grf (uO ps) (pO ps) os u
  | [], u, tk, s => by simp [bestF, grf]
  | o :: os, u, tk, s => by
    simp only [bestF, grf]
    rw [bestF_cost]
    unfold uO pO
    omega
theorem bestF_len (ps : List (Int × Int × Int)) : ∀ (os : List Int) (u : Int) (tk : List Int) (s : Int), (bestF ps os u tk s).1.length = tk.length
  | [], u, tk, s => rfl
  | o :: os, u, tk, s => by simp only [bestF]; rw [bestF_len]; simp
theorem bestF_out (ps : List (Int × Int × Int)) : ∀ (os : List Int) (u : Int) (tk : List Int) (s : Int) (q : Int), (∀ o ∈ os, 0 ≤ o) → 0 ≤ q → q ∉ os → (bestF ps os u tk s).1.getD q.toNat 0 = tk.getD q.toNat 0
  | [], u, tk, s, q, _, _, _ => rfl
  | o :: os, u, tk, s, q, h0, hq, hn => by
    simp only [bestF]
    have ho := h0 o (by simp)
    rw [bestF_out ps os _ _ _ q (fun x hx => h0 x (by simp [hx])) hq (fun h => hn (by simp [h]))]
    have : q ≠ o := fun e => hn (by simp [e])
    simp only [List.getD_eq_getElem?_getD]
    rw [List.getElem?_set_ne (by omega)]
theorem bestF_in (ps : List (Int × Int × Int)) : ∀ (os : List Int) (u : Int) (tk : List Int) (s : Int), os.Nodup → (∀ o ∈ os, 0 ≤ o ∧ o < tk.length) → os.map (fun o => (bestF ps os u tk s).1.getD o.toNat 0) = grd (uO ps) os u
  | [], u, tk, s, _, _ => rfl
  | o :: os, u, tk, s, hd, h0 => by
    have ho := h0 o (by simp)
    have hd' := List.nodup_cons.1 hd
    simp only [bestF, grd, List.map_cons]
    rw [bestF_in ps os _ _ _ hd'.2 (fun x hx => by rw [List.length_set]; exact h0 x (by simp [hx]))]
    rw [bestF_out ps os _ _ _ o (fun x hx => (h0 x (by simp [hx])).1) ho.1 hd'.1]
    simp only [List.getD_eq_getElem?_getD]
    rw [List.getElem?_set_self (by omega)]
    rfl
/-- each of a list of places, taken out of a list, and what becomes of it -/
theorem grd_dot (U p g : Int → Int) : ∀ (os : List Int) (u : Int), os.map g = grd U os u → (os.map fun o => g o * p o).sum = grc U p os u
  | [], u, _ => by simp [grc]
  | o :: os, u, h => by
    simp only [List.map_cons, grd, List.cons.injEq] at h
    have ih := grd_dot U p g os _ h.2
    simp only [List.map_cons, List.sum_cons, grc, ih, h.1]
theorem grd_num (U g : Int → Int) : ∀ (os : List Int) (u : Int), os.map g = grd U os u → (os.map fun o => if 0 < g o then (1 : Int) else 0).sum = grn U os u
  | [], u, _ => by simp [grn]
  | o :: os, u, h => by
    simp only [List.map_cons, grd, List.cons.injEq] at h
    have ih := grd_num U g os _ h.2
    simp only [List.map_cons, List.sum_cons, grn, ih, h.1]

end Go.Proofs.Ytmecggncedhehaa

-- LoanH
namespace Go.Proofs.Ytmecggncedhehaa
open Go.RowKit Go.Lib
set_option linter.unusedVariables false

def offs : List (Int × Int × Int) := [(4, 30, 50000), (2, 50, 40000), (9, 20, 40000)]
theorem offs_in : InP offs := by unfold InP; decide
theorem Row.kptL {w w' : World} {g : Nat} {zs : List Int} (h : Row w g zs) (k : Kpt w w') : Row w' g zs := h.block (k.block g h.lt)
theorem offers_run (w : World) : Calls Try.prog 86 #[] w fun e w' => ∃ a, e = .returned (.slice a 3 3) ∧ Hid (ReadsP w' (.slice a 3 3) offs) ∧ Kpt w w' := by
  have B := Blk.made w #[.int .i64 4, .int .i64 30, .int .i64 50000, .int .i64 2, .int .i64 50, .int .i64 40000, .int .i64 9, .int .i64 20, .int .i64 40000] 66
  have HR : Hid (ReadsP (w.alloc (.cells #[.int .i64 4, .int .i64 30, .int .i64 50000, .int .i64 2, .int .i64 50, .int .i64 40000, .int .i64 9, .int .i64 20, .int .i64 40000] 66)) (.slice (some ⟨w.heap.size, 0, none⟩) 3 3) offs) := by
    refine ⟨_, 3, rfl, (fun e => by cases e), by unfold maxLen; decide, offs_in, fun j hj => ⟨w.heap.size, 0, rfl, ?_⟩⟩
    rcases (show j = 0 ∨ j = 1 ∨ j = 2 by simp [offs] at hj; omega) with rfl | rfl | rfl
    · exact ⟨B.cell 0, B.cell 1, B.cell 2⟩
    · exact ⟨B.cell 3, B.cell 4, B.cell 5⟩
    · exact ⟨B.cell 6, B.cell 7, B.cell 8⟩
  clear B
  go_enter Try.func86, Try.ntmps86
  go_wp2
  go_ret
  exact ⟨_, rfl, HR.out, (Kpt.refl _).alloc _⟩
theorem two_offers (w : World) : ReadsP (w.alloc (.cells #[.int .i64 0, .int .i64 1, .int .i64 0, .int .i64 0, .int .i64 1, .int .i64 0] 66)) (.slice (some ⟨w.heap.size, 0, none⟩) 2 2) [(0, 1, 0), (0, 1, 0)] := by
  have B := Blk.made w #[.int .i64 0, .int .i64 1, .int .i64 0, .int .i64 0, .int .i64 1, .int .i64 0] 66
  refine ⟨_, 2, rfl, (fun e => by cases e), by unfold maxLen; decide, by decide, fun j hj => ⟨w.heap.size, 0, rfl, ?_⟩⟩
  rcases (show j = 0 ∨ j = 1 by simp at hj; omega) with rfl | rfl
  · exact ⟨B.cell 0, B.cell 1, B.cell 2⟩
  · exact ⟨B.cell 3, B.cell 4, B.cell 5⟩
theorem three_at' (w : World) (x y z : Int) : Reads (w.alloc (.cells #[.int .i64 x, .int .i64 y, .int .i64 z] 3)) (.slice (some ⟨w.heap.size, 0, none⟩) 3 3) [x, y, z] := by
  have B := Blk.made w #[.int .i64 x, .int .i64 y, .int .i64 z] 3
  refine reads_mk rfl (by unfold maxLen; decide) fun j hj => ?_
  rw [Nat.zero_add]
  rcases (show j = 0 ∨ j = 1 ∨ j = 2 by simp at hj; omega) with rfl | rfl | rfl
  · exact B.cell 0
  · exact B.cell 1
  · exact B.cell 2

theorem offs_pbs : pbs 10 (unts offs) = [3, 5, 2] := by
  unfold pbs firstL
  rw [show lefts 10 (unts offs) = 0 by decide, List.take_zero]; rfl
instance lxDec (k : Int → Int) : DecidableRel (lxK k) := fun x y => inferInstanceAs (Decidable (k x < k y ∨ (k x = k y ∧ x < y)))
theorem offs_ord : ordK 3 (keyC (prcs offs)) = [1, 2, 0] := by
  exact (Ordd.eq ⟨by decide, by decide⟩).symm
theorem offs_best : bestR offs 75 = ([5, 50, 20], 305) := by
  unfold bestR
  rw [show offs.length = 3 from rfl, offs_ord]; decide
theorem lb_share (v : Value) (w : World) (hr : ReadsP w v offs) : Calls Try.prog 26 #[v, .int .i64 10] w fun e w' => ∃ a, e = .returned (.tuple #[.slice a 3 3, .int .i64 0]) ∧ Hid (Reads w' (.slice a 3 3) [3, 5, 2]) ∧ Kpt w w' := by
  refine (lshare_ok v offs 10 w hr (by decide)).mono ?_
  rintro e w' ⟨g, rfl, _, r, k⟩
  rw [offs_pbs] at r
  exact ⟨_, rfl, r.reads (by unfold maxLen; decide) 3, k⟩
theorem lb_none (v : Value) (w : World) (hr : ReadsP w v offs) : Calls Try.prog 26 #[v, .int .i64 101] w fun e w' => e = .returned (.tuple #[.slice none 0 0, .int .i64 5]) ∧ Kpt w w' := lshare_bad v offs 101 w hr (by decide)
theorem lb_best (v : Value) (w : World) (hr : ReadsP w v offs) : Calls Try.prog 27 #[v, .int .i64 75] w fun e w' => ∃ a, e = .returned (.tuple #[.slice a 3 3, .int .i64 305, .int .i64 0]) ∧ Hid (Reads w' (.slice a 3 3) [5, 50, 20]) ∧ Kpt w w' := by
  refine (best_ok v offs 75 w hr (by decide)).mono ?_
  rintro e w' ⟨g, rfl, _, r, k⟩
  rw [offs_best] at r ⊢
  exact ⟨_, rfl, r.reads (by unfold maxLen; decide) 3, k⟩
theorem lb_back (v : Value) (g : Nat) (w : World) (hr : ReadsP w v offs) (hl : Reads w (.slice (some ⟨g, 0, none⟩) 3 3) [5, 50, 20]) : Calls Try.prog 28 #[v, .slice (some ⟨g, 0, none⟩) 3 3, .int .i64 30] w fun e w' => ∃ a c, e = .returned (.tuple #[.slice a 3 c, .int .i64 0]) ∧ Hid (Reads w' (.slice a 3 c) [5, 40, 0]) ∧ Kpt w w' := by
  refine (back_go v _ 3 offs [5, 50, 20] 30 w hr hl (by decide) (by decide) (by decide)).mono ?_
  rintro e w' ⟨k, ⟨h, _⟩ | ⟨_, a, c, rfl, r⟩⟩
  · exact absurd h (by decide)
  · rw [show bkL [5, 50, 20] 30 = [5, 40, 0] by decide] at r
    exact ⟨a, c, rfl, r, k⟩
theorem lb_wide (v : Value) (g : Nat) (w : World) (hr : ReadsP w v offs) (hl : Reads w (.slice (some ⟨g, 0, none⟩) 3 3) [1, 1, 1]) : Calls Try.prog 28 #[v, .slice (some ⟨g, 0, none⟩) 3 3, .int .i64 4] w fun e w' => e = .returned (.tuple #[.slice none 0 0, .int .i64 8]) ∧ Kpt w w' := by
  refine (back_go v _ 3 offs [1, 1, 1] 4 w hr hl (by decide) (by decide) (by decide)).mono ?_
  rintro e w' ⟨k, ⟨_, rfl⟩ | ⟨h, _⟩⟩
  · exact ⟨rfl, k⟩
  · exact absurd h (by decide)
theorem lb_check (v : Value) (w : World) (hr : ReadsP w v [(0, 1, 0), (0, 1, 0)]) : Calls Try.prog 35 #[v] w fun e w' => e = .returned (.int .i64 6) ∧ Kpt w w' := loanCheck_any v _ w hr

set_option maxRecDepth 100000 in
set_option maxHeartbeats 4000000 in
theorem loanBegun (w : World) : Calls Try.prog 34 #[] w fun e w' => e = .returned (.bool true) ∧ Kpt w w' := by
  have G : Hid (Kpt w w) := Kpt.refl w
  have R1 : Hid True := trivial
  have R2 : Hid True := trivial
  have R3 : Hid True := trivial
  go_enter Try.func34, Try.ntmps34
  go_wp2_with (first
    | (go_at_call 86; (with_reducible refine (offers_run _).mono ?_); rintro e w1 ⟨a1, rfl, H1, k1⟩; have G := Lib.hid (ktr G.out k1); (try have R1 := Lib.hid (Reads.kpt R1.out k1)); (try have R2 := Lib.hid (Reads.kpt R2.out k1)); (try have R3 := Lib.hid (Reads.kpt R3.out k1)); clear k1)
    | (go_at_call 26; (with_reducible refine (lb_share _ _ H1.out).mono ?_); rintro e w2 ⟨a2, rfl, R1, k1⟩; have G := Lib.hid (ktr G.out k1); clear k1)
    | (go_at_call 27; (with_reducible refine (lb_best _ _ H1.out).mono ?_); rintro e w2 ⟨a2, rfl, R2, k1⟩; have G := Lib.hid (ktr G.out k1); have R1 := Lib.hid (Reads.kpt R1.out k1); clear k1)
    | (go_at_call 28; (with_reducible refine (lb_back _ _ _ (ReadsP.kpt H1.out ((Kpt.refl _).alloc _)) (three_at' _ 5 50 20)).mono ?_); rintro e w2 ⟨a2, c2, rfl, R3, k2⟩; have k1 := ktr ((Kpt.refl _).alloc _) k2; have G := Lib.hid (ktr G.out k1); have R1 := Lib.hid (Reads.kpt R1.out k1); have R2 := Lib.hid (Reads.kpt R2.out k1); clear k1 k2)
    | (go_at_call 26; (with_reducible refine (lb_none _ _ H1.out).mono ?_); rintro e w2 ⟨rfl, k1⟩; have G := Lib.hid (ktr G.out k1); have R1 := Lib.hid (Reads.kpt R1.out k1); have R2 := Lib.hid (Reads.kpt R2.out k1); have R3 := Lib.hid (Reads.kpt R3.out k1); clear k1)
    | (go_at_call 28; (with_reducible refine (lb_wide _ _ _ (ReadsP.kpt H1.out ((Kpt.refl _).alloc _)) (three_at' _ 1 1 1)).mono ?_); rintro e w2 ⟨rfl, k2⟩; have k1 := ktr ((Kpt.refl _).alloc _) k2; have G := Lib.hid (ktr G.out k1); have R1 := Lib.hid (Reads.kpt R1.out k1); have R2 := Lib.hid (Reads.kpt R2.out k1); have R3 := Lib.hid (Reads.kpt R3.out k1); clear k1 k2)
    | (go_at_call 37; (with_reducible refine (sameI_run _ _ [3, 5, 2] _ (Reads.kpt R1.out ((Kpt.refl _).alloc _)) (three_at' _ 3 5 2)).mono ?_); rintro e w2 ⟨rfl, k2⟩; have k1 := ktr ((Kpt.refl _).alloc _) k2; have G := Lib.hid (ktr G.out k1); have R2 := Lib.hid (Reads.kpt R2.out k1); have R3 := Lib.hid (Reads.kpt R3.out k1); clear k1 k2)
    | (go_at_call 37; (with_reducible refine (sameI_run _ _ [5, 50, 20] _ (Reads.kpt R2.out ((Kpt.refl _).alloc _)) (three_at' _ 5 50 20)).mono ?_); rintro e w2 ⟨rfl, k2⟩; have k1 := ktr ((Kpt.refl _).alloc _) k2; have G := Lib.hid (ktr G.out k1); have R3 := Lib.hid (Reads.kpt R3.out k1); clear k1 k2)
    | (go_at_call 37; (with_reducible refine (sameI_run _ _ [5, 40, 0] _ (Reads.kpt R3.out ((Kpt.refl _).alloc _)) (three_at' _ 5 40 0)).mono ?_); rintro e w2 ⟨rfl, k2⟩; have k1 := ktr ((Kpt.refl _).alloc _) k2; have G := Lib.hid (ktr G.out k1); clear k1 k2)
    | (go_at_call 35; (with_reducible refine (lb_check _ _ (two_offers _)).mono ?_); rintro e w2 ⟨rfl, k2⟩; have G := Lib.hid (ktr (G.out.alloc _) k2); clear k2))
  go_ret
  exact ⟨rfl, G.out⟩

end Go.Proofs.Ytmecggncedhehaa

-- LoanN
namespace Go.Proofs.Ytmecggncedhehaa
open Go.RowKit Go.Lib
set_option linter.unusedVariables false

theorem grd_mem (U f : Int → Int) : ∀ (os : List Int) (u : Int), (∀ o ∈ os, 0 ≤ U o) → 0 ≤ u → os.map f = grd U os u → ∀ o ∈ os, 0 ≤ f o ∧ f o ≤ U o
  | [], _, _, _, _ => fun o ho => by cases ho
  | p :: os, u, hU, h, e => by
    simp only [List.map_cons, grd, List.cons.injEq] at e
    have h0 := hU p (by simp)
    intro o ho
    rcases List.mem_cons.1 ho with rfl | ho
    · rw [e.1]; omega
    · exact grd_mem U f os _ (fun x hx => hU x (by simp [hx])) (by omega) e.2 o ho
/-- the order of offers by their prices -/
def ordL (ps : List (Int × Int × Int)) : List Int := ordK ps.length (keyC (prcs ps))
theorem ordL_is (ps : List (Int × Int × Int)) : Ordd ps.length (keyC (prcs ps)) (ordL ps) := ordK_is _ _
theorem getD_at {ps : List (Int × Int × Int)} {j : Nat} (h : j < ps.length) : ps.getD j default = ps[j] := by
  rw [List.getD_eq_getElem?_getD, List.getElem?_eq_getElem h]; rfl
theorem uO_bd {ps : List (Int × Int × Int)} (hall : ∀ p ∈ ps, offB p = true) {o : Int} (h : 0 ≤ o ∧ o < ps.length) : 1 ≤ uO ps o ∧ uO ps o ≤ 1073741824 ∧ 0 ≤ pO ps o ∧ pO ps o ≤ 1099511627776 := by
  have hj : o.toNat < ps.length := by omega
  have := off_t (hall _ (getP_mem hj))
  exact ⟨this.2.2.1, this.2.2.2.1, this.2.2.2.2.1, this.2.2.2.2.2⟩
theorem iota_sum (n : Nat) (f : Int → Int) (os : List Int) (h : os.Perm (iota n)) : (os.map f).sum = ((iota n).map f).sum := perm_sum (h.map f)
theorem rsum_at {rs : List Int} {n : Nat} (h : rs.length = n) : ((iota n).map fun x => rs.getD x.toNat 0).sum = rs.sum := by rw [← h]; exact rsum_iota rs
theorem uO_sum (ps : List (Int × Int × Int)) : ((iota ps.length).map (uO ps)).sum = (unts ps).sum := by
  rw [← rsum_at (unts_len ps)]
  congr 1
  refine List.map_congr_left fun o ho => ?_
  have := iota_mem.1 ho
  rw [unts_at (by omega)]; rfl
structure BestIs (ps : List (Int × Int × Int)) (u : Int) : Prop where
  len : (bestR ps u).1.length = ps.length
  sum : (bestR ps u).1.sum = u
  bd : ∀ j : Nat, j < ps.length → 0 ≤ (bestR ps u).1.getD j 0 ∧ (bestR ps u).1.getD j 0 ≤ (ps.getD j default).2.1
  cost : (bestR ps u).2 = grf (uO ps) (pO ps) (ordL ps) u
  at_ : (ordL ps).map (fun o => (bestR ps u).1.getD o.toNat 0) = grd (uO ps) (ordL ps) u
theorem best_is {ps : List (Int × Int × Int)} {u : Int} (h : wantE ps u = 0) : BestIs ps u := by
  obtain ⟨h0, h1, h2⟩ := want_0 h
  obtain ⟨h40, hall⟩ := loan_0 h0
  have od := ordL_is ps
  have hU : ∀ o ∈ ordL ps, 0 ≤ uO ps o := fun o ho => by have := uO_bd hall (od.mem.1 ho); omega
  have hl : (bestR ps u).1.length = ps.length := by unfold bestR; rw [bestF_len, List.length_replicate]
  have ha : (ordL ps).map (fun o => (bestR ps u).1.getD o.toNat 0) = grd (uO ps) (ordL ps) u :=
    bestF_in ps _ u _ 0 od.nodup fun o ho => by rw [List.length_replicate]; exact od.mem.1 ho
  refine ⟨hl, ?_, ?_, ?_, ha⟩
  · rw [← rsum_at hl, ← iota_sum ps.length _ _ od.perm, ha, grd_sum _ _ _ hU (by omega), iota_sum ps.length _ _ od.perm, uO_sum]
    omega
  · intro j hj
    have := grd_mem _ _ _ _ hU (by omega) ha (j : Int) (od.mem.2 (by omega))
    simpa [uO] using this
  · unfold bestR; rw [bestF_cost]; simp [ordL]
theorem pbs_fit {u : Int} {zs : List Int} (h0 : 0 ≤ u) (hE : wtsE zs = 0) (hu : u ≤ zs.sum) {i : Nat} (hi : i < zs.length) : 0 ≤ (pbs u zs).getD i 0 ∧ (pbs u zs).getD i 0 ≤ zs.getD i 0 := by
  obtain ⟨a, b, c, d⟩ := pbs_quota h0 hE hi
  obtain ⟨_, _, hall, _, hS, _, _⟩ := wts_ok hE
  have hz : 0 ≤ zs.getD i 0 := (wt_at hall i).1
  refine ⟨a, ?_⟩
  have h1 : u * zs.getD i 0 ≤ zs.sum * zs.getD i 0 := Int.mul_le_mul_of_nonneg_right hu hz
  rcases Int.lt_or_le (zs.getD i 0) ((pbs u zs).getD i 0) with g | g
  · exfalso
    have h2 : (zs.getD i 0 + 1) * zs.sum ≤ (pbs u zs).getD i 0 * zs.sum := Int.mul_le_mul_of_nonneg_right (by omega) (by omega)
    rw [Int.add_mul, Int.one_mul, Int.mul_comm (zs.getD i 0)] at h2
    omega
  · exact g

end Go.Proofs.Ytmecggncedhehaa
