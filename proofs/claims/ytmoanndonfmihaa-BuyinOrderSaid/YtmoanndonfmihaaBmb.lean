/-
  Merged: LoanE, LoanMath, LoanH, LoanN.
-/
import Derived.Test.YtmoanndonfmihaaBma
import Derived.Test.YtmoanndonfmihaaCost
import Derived.Test.YtmoanndonfmihaaQuietK
import Derived.Deep.Cut
import Derived.Test.YtmoanndonfmihaaSameInts
-- LoanE
namespace Go.Proofs.Ytmoanndonfmihaa
open Go.RowKit Go.Lib
set_option linter.unusedVariables false

/-- taken of these places, in this order, what is there, until it is enough; what it costs -/
def bestF (ps : List (Int × Int × Int)) : List Int → Int → List Int → Int → List Int × Int
  | [], _, tk, s => (tk, s)
  | o :: os, u, tk, s => bestF ps os (u - min u (ps.getD o.toNat default).2.1) (tk.set o.toNat (min u (ps.getD o.toNat default).2.1)) (s + min u (ps.getD o.toNat default).2.1 * (ps.getD o.toNat default).2.2 / 10000)
def bestR (ps : List (Int × Int × Int)) (u : Int) : List Int × Int := bestF ps (ordK ps.length (keyC (prcs ps))) u (List.replicate ps.length 0) 0

theorem cost_le {t C : Int} (h0 : 0 ≤ t) (h1 : 0 ≤ C) (h2 : C ≤ 1099511627776) : 0 ≤ t * C / 10000 ∧ t * C / 10000 ≤ t * 109951163 := by
  refine ⟨Int.ediv_nonneg (Int.mul_nonneg h0 h1) (by decide), ?_⟩
  have h3 : t * C ≤ t * 1099511627776 := Int.mul_le_mul_of_nonneg_left h2 h0
  have h4 : t * C / 10000 ≤ t * 1099511627776 / 10000 := Int.ediv_le_ediv (by decide) h3
  omega

end Go.Proofs.Ytmoanndonfmihaa

-- LoanMath
namespace Go.Proofs.Ytmoanndonfmihaa
set_option linter.unusedVariables false

/-- what is taken at these places, in this order, until it is enough -/
def grd (U : Int → Int) : List Int → Int → List Int
  | [], _ => []
  | o :: os, u => min u (U o) :: grd U os (u - min u (U o))
/-- what it costs, before anything is lost -/
def grc (U p : Int → Int) : List Int → Int → Int
  | [], _ => 0
  | o :: os, u => min u (U o) * p o + grc U p os (u - min u (U o))
/-- what it costs -/
def grf (U p : Int → Int) : List Int → Int → Int
  | [], _ => 0
  | o :: os, u => min u (U o) * p o / 10000 + grf U p os (u - min u (U o))
theorem smap_nonneg : ∀ (os : List Int) (x : Int → Int), (∀ o ∈ os, 0 ≤ x o) → 0 ≤ (os.map x).sum
  | [], _, _ => by simp
  | o :: os, x, h => by
    have h0 := h o (by simp)
    have ih := smap_nonneg os x (fun y hy => h y (by simp [hy]))
    simp only [List.map_cons, List.sum_cons]; omega
theorem grd_sum (U : Int → Int) : ∀ (os : List Int) (u : Int), (∀ o ∈ os, 0 ≤ U o) → 0 ≤ u → (grd U os u).sum = min u (os.map U).sum
  | [], u, _, h => by simp [grd]; omega
  | o :: os, u, hU, h => by
    have h0 := hU o (by simp)
    have ih := grd_sum U os (u - min u (U o)) (fun x hx => hU x (by simp [hx])) (by omega)
    have h1 : 0 ≤ (os.map U).sum := by
      clear ih
      induction os with
      | nil => simp
      | cons a l ih => simp; have := hU a (by simp); have := ih (fun x hx => hU x (by simp at hx ⊢; rcases hx with h | h <;> simp [h])); omega
    simp only [grd, List.sum_cons, List.map_cons, ih]
    omega
theorem grd_bd (U : Int → Int) : ∀ (os : List Int) (u : Int), (∀ o ∈ os, 0 ≤ U o) → 0 ≤ u → ∀ j, 0 ≤ (grd U os u).getD j 0 ∧ (grd U os u).getD j 0 ≤ (os.map U).getD j 0
  | [], u, _, _, j => by simp [grd]
  | o :: os, u, hU, h, j => by
    have h0 := hU o (by simp)
    cases j with
    | zero => simp [grd]; omega
    | succ j => simpa [grd] using grd_bd U os (u - min u (U o)) (fun x hx => hU x (by simp [hx])) (by omega) j
theorem grc_best (U p x : Int → Int) : ∀ (os : List Int) (u q : Int), (∀ o ∈ os, 0 ≤ x o ∧ x o ≤ U o) → os.Pairwise (fun a b => p a ≤ p b) → (∀ o ∈ os, q ≤ p o) → 0 ≤ u → u ≤ (os.map x).sum →
    grc U p os u + ((os.map x).sum - u) * q ≤ (os.map fun o => x o * p o).sum
  | [], u, q, _, _, _, h0, h1 => by
    simp at h1
    obtain rfl : u = 0 := by omega
    simp [grc]
  | o :: os, u, q, hx, hp, hq, h0, h1 => by
    have hx0 := hx o (by simp)
    have hq0 := hq o (by simp)
    have hp' := List.pairwise_cons.1 hp
    simp only [List.map_cons, List.sum_cons] at h1 ⊢
    have e : ∃ a, a = min u (U o) := ⟨_, rfl⟩
    obtain ⟨a, ha⟩ := e
    simp only [grc]
    rw [← ha]
    have hX : 0 ≤ (os.map x).sum := smap_nonneg os x (fun y hy => (hx y (by simp [hy])).1)
    have ih := grc_best U p x os (u - a) (p o) (fun y hy => hx y (by simp [hy])) hp'.2 (fun y hy => hp'.1 y hy) (by omega) (by omega)
    generalize (os.map x).sum = X at *
    generalize (os.map fun o => x o * p o).sum = C at *
    generalize grc U p os (u - a) = G at *
    generalize p o = P at *
    generalize x o = y at *
    have e1 : (X - (u - a)) * P = X * P - u * P + a * P := by rw [Int.sub_mul, Int.sub_mul]; omega
    have e2 : (y + X - u) * q ≤ (y + X - u) * P := Int.mul_le_mul_of_nonneg_left hq0 (by omega)
    have e3 : (y + X - u) * P = y * P + X * P - u * P := by rw [Int.sub_mul, Int.add_mul]
    omega
theorem grf_le (U p : Int → Int) : ∀ (os : List Int) (u : Int), grf U p os u ≤ grc U p os u / 10000
  | [], u => by simp [grf, grc]
  | o :: os, u => by
    have ih := grf_le U p os (u - min u (U o))
    simp only [grf, grc]
    omega
/-- of how many some are taken -/
def grn (U : Int → Int) : List Int → Int → Int
  | [], _ => 0
  | o :: os, u => (if 0 < min u (U o) then 1 else 0) + grn U os (u - min u (U o))
theorem grf_ge (U p : Int → Int) : ∀ (os : List Int) (u : Int), (∀ o ∈ os, 0 ≤ U o) → 0 ≤ u → grc U p os u ≤ grf U p os u * 10000 + grn U os u * 9999
  | [], u, _, _ => by simp [grf, grc, grn]
  | o :: os, u, hU, h => by
    have h0 := hU o (by simp)
    have ih := grf_ge U p os (u - min u (U o)) (fun x hx => hU x (by simp [hx])) (by omega)
    simp only [grf, grc, grn]
    split
    · omega
    · have : min u (U o) = 0 := by omega
      rw [this] at ih ⊢
      omega
theorem grn_le (U : Int → Int) : ∀ (os : List Int) (u : Int), 0 ≤ grn U os u ∧ grn U os u ≤ os.length
  | [], u => by simp [grn]
  | o :: os, u => by
    have ih := grn_le U os (u - min u (U o))
    simp only [grn, List.length_cons]
    split <;> omega
theorem grf_mono (U p : Int → Int) : ∀ (os : List Int) (u v : Int), (∀ o ∈ os, 0 ≤ U o ∧ 0 ≤ p o) → 0 ≤ u → u ≤ v → grf U p os u ≤ grf U p os v
  | [], u, v, _, _, _ => by simp [grf]
  | o :: os, u, v, hU, h0, h1 => by
    have h2 := hU o (by simp)
    have ih := grf_mono U p os (u - min u (U o)) (v - min v (U o)) (fun x hx => hU x (by simp [hx])) (by omega) (by omega)
    simp only [grf]
    have h3 : min u (U o) * p o ≤ min v (U o) * p o := Int.mul_le_mul_of_nonneg_right (by omega) h2.2
    have h4 := Int.ediv_le_ediv (c := 10000) (by decide) h3
    omega
theorem grf_nn (U p : Int → Int) : ∀ (os : List Int) (u : Int), (∀ o ∈ os, 0 ≤ U o ∧ 0 ≤ p o) → 0 ≤ u → 0 ≤ grf U p os u
  | [], u, _, _ => by simp [grf]
  | o :: os, u, hU, h0 => by
    have h2 := hU o (by simp)
    have ih := grf_nn U p os (u - min u (U o)) (fun x hx => hU x (by simp [hx])) (by omega)
    simp only [grf]
    have h3 : 0 ≤ min u (U o) * p o := Int.mul_nonneg (by omega) h2.2
    have h4 := Int.ediv_nonneg h3 (show (0 : Int) ≤ 10000 by decide)
    omega

def uO (ps : List (Int × Int × Int)) (o : Int) : Int := (ps.getD o.toNat default).2.1
def pO (ps : List (Int × Int × Int)) (o : Int) : Int := (ps.getD o.toNat default).2.2
theorem bestF_cost (ps : List (Int × Int × Int)) : ∀ (os : List Int) (u : Int) (tk : List Int) (s : Int), (bestF ps os u tk s).2 = s + grf (uO ps) (pO ps) os u
  | [], u, tk, s => by simp [bestF, grf]
  | o :: os, u, tk, s => by
    simp only [bestF, grf]
    rw [bestF_cost]
    unfold uO pO
    omega
theorem bestF_len (ps : List (Int × Int × Int)) : ∀ (os : List Int) (u : Int) (tk : List Int) (s : Int), (bestF ps os u tk s).1.length = tk.length
  | [], u, tk, s => rfl
  | o :: os, u, tk, s => by simp only [bestF]; rw [bestF_len]; simp
theorem bestF_out (ps : List (Int × Int × Int)) : ∀ (os : List Int) (u : Int) (tk : List Int) (s : Int) (q : Int), (∀ o ∈ os, 0 ≤ o) → 0 ≤ q → q ∉ os → (bestF ps os u tk s).1.getD q.toNat 0 = tk.getD q.toNat 0
  | [], u, tk, s, q, _, _, _ => rfl
  | o :: os, u, tk, s, q, h0, hq, hn => by
    simp only [bestF]
    have ho := h0 o (by simp)
    rw [bestF_out ps os _ _ _ q (fun x hx => h0 x (by simp [hx])) hq (fun h => hn (by simp [h]))]
    have : q ≠ o := fun e => hn (by simp [e])
    simp only [List.getD_eq_getElem?_getD]
    rw [List.getElem?_set_ne (by omega)]
theorem bestF_in (ps : List (Int × Int × Int)) : ∀ (os : List Int) (u : Int) (tk : List Int) (s : Int), os.Nodup → (∀ o ∈ os, 0 ≤ o ∧ o < tk.length) → os.map (fun o => (bestF ps os u tk s).1.getD o.toNat 0) = grd (uO ps) os u
  | [], u, tk, s, _, _ => rfl
  | o :: os, u, tk, s, hd, h0 => by
    have ho := h0 o (by simp)
    have hd' := List.nodup_cons.1 hd
    simp only [bestF, grd, List.map_cons]
    rw [bestF_in ps os _ _ _ hd'.2 (fun x hx => by rw [List.length_set]; exact h0 x (by simp [hx]))]
    rw [bestF_out ps os _ _ _ o (fun x hx => (h0 x (by simp [hx])).1) ho.1 hd'.1]
    simp only [List.getD_eq_getElem?_getD]
    rw [List.getElem?_set_self (by omega)]
    rfl
/-- each of a list of places, taken out of a list, and what becomes of it -/
theorem grd_dot (U p g : Int → Int) : ∀ (os : List Int) (u : Int), os.map g = grd U os u → (os.map fun o => g o * p o).sum = grc U p os u
  | [], u, _ => by simp [grc]
  | o :: os, u, h => by
    simp only [List.map_cons, grd, List.cons.injEq] at h
    have ih := grd_dot U p g os _ h.2
    simp only [List.map_cons, List.sum_cons, grc, ih, h.1]
theorem grd_num (U g : Int → Int) : ∀ (os : List Int) (u : Int), os.map g = grd U os u → (os.map fun o => if 0 < g o then (1 : Int) else 0).sum = grn U os u
  | [], u, _ => by simp [grn]
  | o :: os, u, h => by
    simp only [List.map_cons, grd, List.cons.injEq] at h
    have ih := grd_num U g os _ h.2
    simp only [List.map_cons, List.sum_cons, grn, ih, h.1]

end Go.Proofs.Ytmoanndonfmihaa

-- LoanH
namespace Go.Proofs.Ytmoanndonfmihaa
open Go.RowKit Go.Lib
set_option linter.unusedVariables false

def offs : List (Int × Int × Int) := [(4, 30, 50000), (2, 50, 40000), (9, 20, 40000)]
theorem offs_in : InP offs := by unfold InP; decide
theorem Row.kptL {w w' : World} {g : Nat} {zs : List Int} (h : Row w g zs) (k : Kpt w w') : Row w' g zs := h.block (k.block g h.lt)
theorem offers_run (w : World) : Calls Try.prog 59 #[] w fun e w' => ∃ a, e = .returned (.slice a 3 3) ∧ Hid (ReadsP w' (.slice a 3 3) offs) ∧ Kpt w w' := by
  have B := Blk.made w #[.int .i64 4, .int .i64 30, .int .i64 50000, .int .i64 2, .int .i64 50, .int .i64 40000, .int .i64 9, .int .i64 20, .int .i64 40000] 52
  have HR : Hid (ReadsP (w.alloc (.cells #[.int .i64 4, .int .i64 30, .int .i64 50000, .int .i64 2, .int .i64 50, .int .i64 40000, .int .i64 9, .int .i64 20, .int .i64 40000] 52)) (.slice (some ⟨w.heap.size, 0, none⟩) 3 3) offs) := by
    refine ⟨_, 3, rfl, (fun e => by cases e), by unfold maxLen; decide, offs_in, fun j hj => ⟨w.heap.size, 0, rfl, ?_⟩⟩
    rcases (show j = 0 ∨ j = 1 ∨ j = 2 by simp [offs] at hj; omega) with rfl | rfl | rfl
    · exact ⟨B.cell 0, B.cell 1, B.cell 2⟩
    · exact ⟨B.cell 3, B.cell 4, B.cell 5⟩
    · exact ⟨B.cell 6, B.cell 7, B.cell 8⟩
  clear B
  go_enter Try.func59, Try.ntmps59
  go_wp2
  go_ret
  exact ⟨_, rfl, HR.out, (Kpt.refl _).alloc _⟩
theorem two_offers (w : World) : ReadsP (w.alloc (.cells #[.int .i64 0, .int .i64 1, .int .i64 0, .int .i64 0, .int .i64 1, .int .i64 0] 52)) (.slice (some ⟨w.heap.size, 0, none⟩) 2 2) [(0, 1, 0), (0, 1, 0)] := by
  have B := Blk.made w #[.int .i64 0, .int .i64 1, .int .i64 0, .int .i64 0, .int .i64 1, .int .i64 0] 52
  refine ⟨_, 2, rfl, (fun e => by cases e), by unfold maxLen; decide, by decide, fun j hj => ⟨w.heap.size, 0, rfl, ?_⟩⟩
  rcases (show j = 0 ∨ j = 1 by simp at hj; omega) with rfl | rfl
  · exact ⟨B.cell 0, B.cell 1, B.cell 2⟩
  · exact ⟨B.cell 3, B.cell 4, B.cell 5⟩
theorem three_at' (w : World) (x y z : Int) : Reads (w.alloc (.cells #[.int .i64 x, .int .i64 y, .int .i64 z] 3)) (.slice (some ⟨w.heap.size, 0, none⟩) 3 3) [x, y, z] := by
  have B := Blk.made w #[.int .i64 x, .int .i64 y, .int .i64 z] 3
  refine reads_mk rfl (by unfold maxLen; decide) fun j hj => ?_
  rw [Nat.zero_add]
  rcases (show j = 0 ∨ j = 1 ∨ j = 2 by simp at hj; omega) with rfl | rfl | rfl
  · exact B.cell 0
  · exact B.cell 1
  · exact B.cell 2

theorem offs_pbs : pbs 10 (unts offs) = [3, 5, 2] := by
  unfold pbs firstL
  rw [show lefts 10 (unts offs) = 0 by decide, List.take_zero]; rfl
instance lxDec (k : Int → Int) : DecidableRel (lxK k) := fun x y => inferInstanceAs (Decidable (k x < k y ∨ (k x = k y ∧ x < y)))
theorem offs_ord : ordK 3 (keyC (prcs offs)) = [1, 2, 0] := by
  exact (Ordd.eq ⟨by decide, by decide⟩).symm
theorem offs_best : bestR offs 75 = ([5, 50, 20], 305) := by
  unfold bestR
  rw [show offs.length = 3 from rfl, offs_ord]; decide
theorem lb_check (v : Value) (w : World) (hr : ReadsP w v [(0, 1, 0), (0, 1, 0)]) : Calls Try.prog 54 #[v] w fun e w' => e = .returned (.int .i64 6) ∧ Kpt w w' := loanCheck_any v _ w hr

end Go.Proofs.Ytmoanndonfmihaa

-- LoanN
namespace Go.Proofs.Ytmoanndonfmihaa
open Go.RowKit Go.Lib
set_option linter.unusedVariables false

theorem grd_mem (U f : Int → Int) : ∀ (os : List Int) (u : Int), (∀ o ∈ os, 0 ≤ U o) → 0 ≤ u → os.map f = grd U os u → ∀ o ∈ os, 0 ≤ f o ∧ f o ≤ U o
  | [], _, _, _, _ => fun o ho => by cases ho
  | p :: os, u, hU, h, e => by
    simp only [List.map_cons, grd, List.cons.injEq] at e
    have h0 := hU p (by simp)
    intro o ho
    rcases List.mem_cons.1 ho with rfl | ho
    · rw [e.1]; omega
    · exact grd_mem U f os _ (fun x hx => hU x (by simp [hx])) (by omega) e.2 o ho
/-- the order of offers by their prices -/
def ordL (ps : List (Int × Int × Int)) : List Int := ordK ps.length (keyC (prcs ps))
theorem ordL_is (ps : List (Int × Int × Int)) : Ordd ps.length (keyC (prcs ps)) (ordL ps) := ordK_is _ _
theorem getD_at {ps : List (Int × Int × Int)} {j : Nat} (h : j < ps.length) : ps.getD j default = ps[j] := by
  rw [List.getD_eq_getElem?_getD, List.getElem?_eq_getElem h]; rfl
theorem uO_bd {ps : List (Int × Int × Int)} (hall : ∀ p ∈ ps, offB p = true) {o : Int} (h : 0 ≤ o ∧ o < ps.length) : 1 ≤ uO ps o ∧ uO ps o ≤ 1073741824 ∧ 0 ≤ pO ps o ∧ pO ps o ≤ 1099511627776 := by
  have hj : o.toNat < ps.length := by omega
  have := off_t (hall _ (getP_mem hj))
  exact ⟨this.2.2.1, this.2.2.2.1, this.2.2.2.2.1, this.2.2.2.2.2⟩
theorem iota_sum (n : Nat) (f : Int → Int) (os : List Int) (h : os.Perm (iota n)) : (os.map f).sum = ((iota n).map f).sum := perm_sum (h.map f)
theorem rsum_at {rs : List Int} {n : Nat} (h : rs.length = n) : ((iota n).map fun x => rs.getD x.toNat 0).sum = rs.sum := by rw [← h]; exact rsum_iota rs
theorem uO_sum (ps : List (Int × Int × Int)) : ((iota ps.length).map (uO ps)).sum = (unts ps).sum := by
  rw [← rsum_at (unts_len ps)]
  congr 1
  refine List.map_congr_left fun o ho => ?_
  have := iota_mem.1 ho
  rw [unts_at (by omega)]; rfl
structure BestIs (ps : List (Int × Int × Int)) (u : Int) : Prop where
  len : (bestR ps u).1.length = ps.length
  sum : (bestR ps u).1.sum = u
  bd : ∀ j : Nat, j < ps.length → 0 ≤ (bestR ps u).1.getD j 0 ∧ (bestR ps u).1.getD j 0 ≤ (ps.getD j default).2.1
  cost : (bestR ps u).2 = grf (uO ps) (pO ps) (ordL ps) u
  at_ : (ordL ps).map (fun o => (bestR ps u).1.getD o.toNat 0) = grd (uO ps) (ordL ps) u
theorem best_is {ps : List (Int × Int × Int)} {u : Int} (h : wantE ps u = 0) : BestIs ps u := by
  obtain ⟨h0, h1, h2⟩ := want_0 h
  obtain ⟨h40, hall⟩ := loan_0 h0
  have od := ordL_is ps
  have hU : ∀ o ∈ ordL ps, 0 ≤ uO ps o := fun o ho => by have := uO_bd hall (od.mem.1 ho); omega
  have hl : (bestR ps u).1.length = ps.length := by unfold bestR; rw [bestF_len, List.length_replicate]
  have ha : (ordL ps).map (fun o => (bestR ps u).1.getD o.toNat 0) = grd (uO ps) (ordL ps) u :=
    bestF_in ps _ u _ 0 od.nodup fun o ho => by rw [List.length_replicate]; exact od.mem.1 ho
  refine ⟨hl, ?_, ?_, ?_, ha⟩
  · rw [← rsum_at hl, ← iota_sum ps.length _ _ od.perm, ha, grd_sum _ _ _ hU (by omega), iota_sum ps.length _ _ od.perm, uO_sum]
    omega
  · intro j hj
    have := grd_mem _ _ _ _ hU (by omega) ha (j : Int) (od.mem.2 (by omega))
    simpa [uO] using this
  · unfold bestR; rw [bestF_cost]; simp [ordL]
theorem pbs_fit {u : Int} {zs : List Int} (h0 : 0 ≤ u) (hE : wtsE zs = 0) (hu : u ≤ zs.sum) {i : Nat} (hi : i < zs.length) : 0 ≤ (pbs u zs).getD i 0 ∧ (pbs u zs).getD i 0 ≤ zs.getD i 0 := by
  obtain ⟨a, b, c, d⟩ := pbs_quota h0 hE hi
  obtain ⟨_, _, hall, _, hS, _, _⟩ := wts_ok hE
  have hz : 0 ≤ zs.getD i 0 := (wt_at hall i).1
  refine ⟨a, ?_⟩
  have h1 : u * zs.getD i 0 ≤ zs.sum * zs.getD i 0 := Int.mul_le_mul_of_nonneg_right hu hz
  rcases Int.lt_or_le (zs.getD i 0) ((pbs u zs).getD i 0) with g | g
  · exfalso
    have h2 : (zs.getD i 0 + 1) * zs.sum ≤ (pbs u zs).getD i 0 * zs.sum := Int.mul_le_mul_of_nonneg_right (by omega) (by omega)
    rw [Int.add_mul, Int.one_mul, Int.mul_comm (zs.getD i 0)] at h2
    omega
  · exact g

end Go.Proofs.Ytmoanndonfmihaa
