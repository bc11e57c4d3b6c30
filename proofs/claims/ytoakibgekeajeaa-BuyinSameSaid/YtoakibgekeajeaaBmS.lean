/-
  Merged: LawBS.
-/
import Derived.Test.YtoakibgekeajeaaBmF
import Derived.Test.YtoakibgekeajeaaSl
-- LawBS
namespace Go.Proofs.Ytoakibgekeajeaa
open Go.RowKit Go.Lib
set_option linter.unusedVariables false

/-- of those at one price; of those below it -/
def clsS (p f : Int → Int) (P : Int) (os : List Int) : Int := (os.map fun o => if p o = P then f o else 0).sum
def lowS (p f : Int → Int) (P : Int) (os : List Int) : Int := (os.map fun o => if p o < P then f o else 0).sum
theorem clsS_nn {p f : Int → Int} {P : Int} {os : List Int} (h : ∀ o ∈ os, 0 ≤ f o) : 0 ≤ clsS p f P os := smap_nonneg os _ fun o ho => by
  split
  · exact h o ho
  · exact Int.le_refl _
theorem lowS_nn {p f : Int → Int} {P : Int} {os : List Int} (h : ∀ o ∈ os, 0 ≤ f o) : 0 ≤ lowS p f P os := smap_nonneg os _ fun o ho => by
  split
  · exact h o ho
  · exact Int.le_refl _
theorem lowS_0 {p f : Int → Int} {P : Int} : ∀ {os : List Int}, (∀ o ∈ os, P ≤ p o) → lowS p f P os = 0
  | [], _ => rfl
  | o :: os, h => by
    have h0 := h o (by simp)
    have ih := lowS_0 (p := p) (f := f) (os := os) fun x hx => h x (by simp [hx])
    unfold lowS at ih ⊢
    simp only [List.map_cons, List.sum_cons, ih]
    rw [if_neg (by omega)]; rfl
theorem clsS_0 {p f : Int → Int} {P : Int} : ∀ {os : List Int}, (∀ o ∈ os, P < p o) → clsS p f P os = 0
  | [], _ => rfl
  | o :: os, h => by
    have h0 := h o (by simp)
    have ih := clsS_0 (p := p) (f := f) (os := os) fun x hx => h x (by simp [hx])
    unfold clsS at ih ⊢
    simp only [List.map_cons, List.sum_cons, ih]
    rw [if_neg (by omega)]; rfl
theorem clsS_cons (p f : Int → Int) (P o : Int) (os : List Int) : clsS p f P (o :: os) = (if p o = P then f o else 0) + clsS p f P os := by unfold clsS; simp
theorem lowS_cons (p f : Int → Int) (P o : Int) (os : List Int) : lowS p f P (o :: os) = (if p o < P then f o else 0) + lowS p f P os := by unfold lowS; simp
/-- of each price as much is taken, in whatever order of prices -/
theorem grd_cls (U p f : Int → Int) (P : Int) : ∀ (os : List Int) (u : Int), (∀ o ∈ os, 0 ≤ U o) → os.Pairwise (fun a b => p a ≤ p b) → 0 ≤ u → os.map f = grd U os u → clsS p f P os = min (max (u - lowS p U P os) 0) (clsS p U P os)
  | [], u, _, _, _, _ => by simp [clsS, lowS]; omega
  | o :: os, u, hU, hp, hu, e => by
    have h0 := hU o (by simp)
    have hp' := List.pairwise_cons.1 hp
    simp only [List.map_cons, grd, List.cons.injEq] at e
    have ih := grd_cls U p f P os (u - min u (U o)) (fun x hx => hU x (by simp [hx])) hp'.2 (by omega) e.2
    have hc := clsS_nn (p := p) (f := U) (P := P) (os := os) fun x hx => hU x (by simp [hx])
    have hl := lowS_nn (p := p) (f := U) (P := P) (os := os) fun x hx => hU x (by simp [hx])
    rw [clsS_cons, clsS_cons, lowS_cons, ih, e.1]
    rcases Int.lt_trichotomy (p o) P with h | h | h
    · rw [if_neg (by omega), if_pos h, if_neg (by omega)]; omega
    · have hz : lowS p U P os = 0 := lowS_0 fun x hx => by have := hp'.1 x hx; omega
      rw [if_pos h, if_neg (by omega), if_pos h, hz]; omega
    · have hz : lowS p U P os = 0 := lowS_0 fun x hx => by have := hp'.1 x hx; omega
      have hy : clsS p U P os = 0 := clsS_0 fun x hx => by have := hp'.1 x hx; omega
      rw [if_neg (by omega), if_neg (by omega), if_neg (by omega), hz, hy]; omega
theorem takG_in (U p : Int → Int) (lim : Int) : ∀ (os : List Int) (u : Int) (tk : List Int), os.Nodup → (∀ o ∈ os, 0 ≤ o ∧ o < tk.length ∧ p o ≤ lim) → os.map (fun o => (takG U p lim os u tk).1.getD o.toNat 0) = grd U os u
  | [], _, _, _, _ => rfl
  | o :: os, u, tk, hd, h0 => by
    have ho := h0 o (by simp)
    have hd' := List.nodup_cons.1 hd
    have e : takG U p lim (o :: os) u tk = takG U p lim os (u - min u (U o)) (tk.set o.toNat (min u (U o))) := by rw [takG, if_neg (by omega)]
    rw [e]
    simp only [grd, List.map_cons]
    rw [takG_in U p lim os _ _ hd'.2 (fun x hx => by rw [List.length_set]; exact h0 x (by simp [hx]))]
    rw [takG_out U p lim os _ _ o (fun x hx => (h0 x (by simp [hx])).1) ho.1 hd'.1]
    rw [List.getD_eq_getElem?_getD, List.getElem?_set_self (by omega)]
    rfl
/-- of each, at one price -/
def clsL (xs : List Int) (ps : List (Int × Int × Int)) (P : Int) : List Int := (List.range ps.length).map fun j => if (ps.getD j default).2.2 = P then xs.getD j 0 else 0
theorem clsL_take (xs : List Int) (ps : List (Int × Int × Int)) (P : Int) {k : Nat} (h : k < ps.length) : ((clsL xs ps P).take (k + 1)).sum = ((clsL xs ps P).take k).sum + if (ps.getD k default).2.2 = P then xs.getD k 0 else 0 := by
  have hl : (clsL xs ps P).length = ps.length := by simp [clsL]
  rw [take_sum (by rw [hl]; exact h)]
  congr 1
  simp [clsL, List.getD_eq_getElem?_getD, h]
theorem clsL_iota (xs : List Int) (ps : List (Int × Int × Int)) (P : Int) : clsS (pO ps) (fun o => xs.getD o.toNat 0) P (iota ps.length) = (clsL xs ps P).sum := by
  unfold clsS clsL iota pO
  rw [List.map_map]
  rfl
theorem clsL_bd (xs : List Int) (ps : List (Int × Int × Int)) (P : Int) (h : ∀ j : Nat, j < ps.length → 0 ≤ xs.getD j 0 ∧ xs.getD j 0 ≤ 1073741824) : ∀ k : Nat, k ≤ ps.length → 0 ≤ ((clsL xs ps P).take k).sum ∧ ((clsL xs ps P).take k).sum ≤ k * 1073741824
  | 0, _ => by simp
  | k + 1, hk => by
    have ih := clsL_bd xs ps P h k (by omega)
    have := h k (by omega)
    rw [clsL_take xs ps P (by omega)]
    split <;> omega
theorem clsS_perm {p f : Int → Int} {P : Int} {xs ys : List Int} (h : xs.Perm ys) : clsS p f P xs = clsS p f P ys := perm_sum (h.map _)
theorem lowS_perm {p f : Int → Int} {P : Int} {xs ys : List Int} (h : xs.Perm ys) : lowS p f P xs = lowS p f P ys := perm_sum (h.map _)
theorem ordL_pr (ps : List (Int × Int × Int)) : (ordL ps).Pairwise (fun a b => pO ps a ≤ pO ps b) := by
  refine (ordL_is ps).sorted.imp fun {a b} h => ?_
  have e : ∀ j : Nat, (prcs ps).getD j 0 = (ps.getD j default).2.2 := fun j => by
    by_cases hj : j < ps.length
    · exact prcs_at hj
    · rw [List.getD_eq_getElem?_getD, List.getD_eq_getElem?_getD, List.getElem?_eq_none (by rw [prcs_len]; omega), List.getElem?_eq_none (by omega)]; rfl
  unfold lxK keyC at h
  rw [e, e] at h
  unfold pO; omega
theorem same_cls {ps : List (Int × Int × Int)} {u : Int} (hE : wantE ps u = 0) (P : Int) : (takR ps u 1099511627776).2 = 0 ∧ (clsL (takR ps u 1099511627776).1 ps P).sum = (clsL (bestR ps u).1 ps P).sum := by
  obtain ⟨h0, h1, h2⟩ := want_0 hE
  obtain ⟨h40, hall⟩ := loan_0 h0
  have oB := ordB_is ps
  have oL := ordL_is ps
  have hb := best_is hE
  have ht := take_is_ok (u := u) (lim := 1099511627776) h0 (by omega)
  have hU : ∀ o ∈ ordB ps, 0 ≤ uO ps o := fun o ho => by have := uO_bd hall (oB.mem.1 ho); omega
  have hUL : ∀ o ∈ ordL ps, 0 ≤ uO ps o := fun o ho => by have := uO_bd hall (oL.mem.1 ho); omega
  have hin : (ordB ps).map (fun o => (takR ps u 1099511627776).1.getD o.toNat 0) = grd (uO ps) (ordB ps) u := by
    unfold takR
    rw [takF_eq]
    exact takG_in _ _ _ _ _ _ oB.nodup fun o ho => by
      have hm := oB.mem.1 ho
      rw [List.length_replicate]
      exact ⟨hm.1, hm.2, (uO_bd hall hm).2.2.2⟩
  refine ⟨?_, ?_⟩
  · have hs : (takR ps u 1099511627776).1.sum = u := by
      rw [← rsum_at ht.len, ← iota_sum ps.length _ _ oB.perm, hin, grd_sum _ _ _ hU (by omega), iota_sum ps.length _ _ oB.perm, uO_sum]
      omega
    have := ht.sum
    omega
  · have e1 := grd_cls (uO ps) (pO ps) _ P _ _ hU (ordB_prices hall) (by omega) hin
    have e2 := grd_cls (uO ps) (pO ps) _ P _ _ hUL (ordL_pr ps) (by omega) hb.at_
    rw [clsS_perm oB.perm, clsS_perm oB.perm, lowS_perm oB.perm, clsL_iota] at e1
    rw [clsS_perm oL.perm, clsS_perm oL.perm, lowS_perm oL.perm, clsL_iota] at e2
    rw [e1, e2]

def BsE (w0 : World) (v : Value) (u E : Int) : Prop := ∀ w', Kpt w0 w' → Calls Try.prog 29 #[v, .int .i64 u] w' fun e w'' => e = .returned (.tuple #[.slice none 0 0, .int .i64 0, .int .i64 E]) ∧ Kpt w' w''
theorem BsE.run {w0 : World} {v : Value} {u E : Int} (h : BsE w0 v u E) (w' : World) (k : Kpt w0 w') : Calls Try.prog 29 #[v, .int .i64 u] w' fun e w'' => e = .returned (.tuple #[.slice none 0 0, .int .i64 0, .int .i64 E]) ∧ Kpt w' w'' := h w' k
def BsR (w0 : World) (v : Value) (n : Nat) (u c : Int) (T : List Int) : Prop := ∀ w', Kpt w0 w' → Calls Try.prog 29 #[v, .int .i64 u] w' fun e w'' => ∃ g, e = .returned (.tuple #[.slice (some ⟨g, 0, none⟩) n n, .int .i64 c, .int .i64 0]) ∧ w'.heap.size ≤ g ∧ Row w'' g T ∧ Kpt w' w''
theorem BsR.run {w0 : World} {v : Value} {n : Nat} {u c : Int} {T : List Int} (h : BsR w0 v n u c T) (w' : World) (k : Kpt w0 w') : Calls Try.prog 29 #[v, .int .i64 u] w' fun e w'' => ∃ g, e = .returned (.tuple #[.slice (some ⟨g, 0, none⟩) n n, .int .i64 c, .int .i64 0]) ∧ w'.heap.size ≤ g ∧ Row w'' g T ∧ Kpt w' w'' := h w' k

set_option maxRecDepth 100000 in
set_option maxHeartbeats 2000000 in
theorem bsame_no (v : Value) (u q E F : Int) (hE : E ≠ 0) (hF : F ≠ 0) (w : World) (T0 : TkE w v u 1099511627776 E) (B0 : BsE w v u F) : Calls Try.prog 8 #[v, .int .i64 u, .int .i64 q] w fun x w' => x = .returned (.bool true) ∧ Kpt w w' := by
  have T := Lib.hid T0
  have B := Lib.hid B0
  have q1 : (E != 0) = true := bne_iff_ne.2 hE
  have K0 : Hid (Kpt w w) := Kpt.refl w
  clear T0 B0 hE hF
  go_enter Try.func8, Try.ntmps8
  go_wp2_with (first
    | (go_at_call 16; (with_reducible refine (T.out.run _ K0.out).mono ?_); rintro e w1 ⟨rfl, k1⟩; have K0 := Lib.hid (ktr K0.out k1); clear k1)
    | (go_at_call 29; (with_reducible refine (B.out.run _ K0.out).mono ?_); rintro e w1 ⟨rfl, k1⟩; have K0 := Lib.hid (ktr K0.out k1); clear k1)
    | (go_at_call 26; (with_reducible refine (buyinBegun _).mono ?_); rintro e w1 ⟨rfl, k1⟩; have K0 := Lib.hid (ktr K0.out k1); clear k1)
    | (go_at_call 30; (with_reducible refine (loanBegun _).mono ?_); rintro e w1 ⟨rfl, k1⟩; have K0 := Lib.hid (ktr K0.out k1); clear k1))
  go_ret
  exact ⟨rfl, K0.out⟩
set_option maxRecDepth 100000 in
set_option maxHeartbeats 2000000 in
theorem bsame_none (v : Value) (n : Nat) (u q F M : Int) (T : List Int) (hF : F ≠ 0) (w : World) (T0 : TkR w v n u 1099511627776 T M) (B0 : BsE w v u F) : Calls Try.prog 8 #[v, .int .i64 u, .int .i64 q] w fun x w' => x = .returned (.bool true) ∧ Kpt w w' := by
  have T := Lib.hid T0
  have B := Lib.hid B0
  have q1 : (F != 0) = true := bne_iff_ne.2 hF
  have K0 : Hid (Kpt w w) := Kpt.refl w
  clear T0 B0 hF
  go_enter Try.func8, Try.ntmps8
  go_wp2_with (first
    | (go_at_call 16; (with_reducible refine (T.out.run _ K0.out).mono ?_); rintro e w1 ⟨g1, rfl, _, r1, k1⟩; have K0 := Lib.hid (ktr K0.out k1); have R1 := Lib.hid r1; clear k1 r1)
    | (go_at_call 29; (with_reducible refine (B.out.run _ K0.out).mono ?_); rintro e w1 ⟨rfl, k1⟩; have K0 := Lib.hid (ktr K0.out k1); clear k1)
    | (go_at_call 26; (with_reducible refine (buyinBegun _).mono ?_); rintro e w1 ⟨rfl, k1⟩; have K0 := Lib.hid (ktr K0.out k1); clear k1)
    | (go_at_call 30; (with_reducible refine (loanBegun _).mono ?_); rintro e w1 ⟨rfl, k1⟩; have K0 := Lib.hid (ktr K0.out k1); clear k1))
  go_ret
  exact ⟨rfl, K0.out⟩
set_option maxRecDepth 100000 in
set_option maxHeartbeats 2000000 in
theorem bsame_far (a : Option Addr) (cap n : Nat) (u q c : Int) (T0' T1' : List Int) (hn : n ≤ 40) (hq : q < 0 ∨ n ≤ q) (w : World) (T0 : TkR w (.slice a n cap) n u 1099511627776 T0' 0) (B0 : BsR w (.slice a n cap) n u c T1') : Calls Try.prog 8 #[.slice a n cap, .int .i64 u, .int .i64 q] w fun x w' => x = .returned (.bool true) ∧ Kpt w w' := by
  have T := Lib.hid T0
  have B := Lib.hid B0
  have K0 : Hid (Kpt w w) := Kpt.refl w
  clear T0 B0
  by_cases h : q < 0
  · have d1 : decide (q < 0) = true := decide_eq_true h
    clear h hq
    go_enter Try.func8, Try.ntmps8
    go_wp2_with (first
      | (go_at_call 16; (with_reducible refine (T.out.run _ K0.out).mono ?_); rintro e w1 ⟨g1, rfl, _, r1, k1⟩; have K0 := Lib.hid (ktr K0.out k1); have R1 := Lib.hid r1; clear k1 r1)
      | (go_at_call 29; (with_reducible refine (B.out.run _ K0.out).mono ?_); rintro e w1 ⟨g2, rfl, _, r2, k1⟩; have K0 := Lib.hid (ktr K0.out k1); have R1 := Lib.hid (Row.kptL R1.out k1); have R2 := Lib.hid r2; clear k1 r2)
      | (go_at_call 26; (with_reducible refine (buyinBegun _).mono ?_); rintro e w1 ⟨rfl, k1⟩; have K0 := Lib.hid (ktr K0.out k1); have R1 := Lib.hid (Row.kptL R1.out k1); have R2 := Lib.hid (Row.kptL R2.out k1); clear k1)
      | (go_at_call 30; (with_reducible refine (loanBegun _).mono ?_); rintro e w1 ⟨rfl, k1⟩; have K0 := Lib.hid (ktr K0.out k1); have R1 := Lib.hid (Row.kptL R1.out k1); have R2 := Lib.hid (Row.kptL R2.out k1); clear k1))
    go_ret
    exact ⟨rfl, K0.out⟩
  · have d1 : decide (q < 0) = false := decide_eq_false h
    have d2 : decide ((n : Int) ≤ q) = true := decide_eq_true (by omega)
    clear h hq
    go_enter Try.func8, Try.ntmps8
    go_wp2_with (first
      | (go_at_call 16; (with_reducible refine (T.out.run _ K0.out).mono ?_); rintro e w1 ⟨g1, rfl, _, r1, k1⟩; have K0 := Lib.hid (ktr K0.out k1); have R1 := Lib.hid r1; clear k1 r1)
      | (go_at_call 29; (with_reducible refine (B.out.run _ K0.out).mono ?_); rintro e w1 ⟨g2, rfl, _, r2, k1⟩; have K0 := Lib.hid (ktr K0.out k1); have R1 := Lib.hid (Row.kptL R1.out k1); have R2 := Lib.hid r2; clear k1 r2)
      | (go_at_call 26; (with_reducible refine (buyinBegun _).mono ?_); rintro e w1 ⟨rfl, k1⟩; have K0 := Lib.hid (ktr K0.out k1); have R1 := Lib.hid (Row.kptL R1.out k1); have R2 := Lib.hid (Row.kptL R2.out k1); clear k1)
      | (go_at_call 30; (with_reducible refine (loanBegun _).mono ?_); rintro e w1 ⟨rfl, k1⟩; have K0 := Lib.hid (ktr K0.out k1); have R1 := Lib.hid (Row.kptL R1.out k1); have R2 := Lib.hid (Row.kptL R2.out k1); clear k1))
    go_ret
    exact ⟨rfl, K0.out⟩
set_option maxRecDepth 100000 in
set_option maxHeartbeats 8000000 in
theorem bsame_ok (b off cap : Nat) (ps : List (Int × Int × Int)) (u c : Int) (q : Nat) (D : Int) (ts bs : List Int) (w : World) (h40 : ps.length ≤ 40) (hq : q < ps.length) (hD : (ps.getD q default).2.2 = D) (hl1 : ts.length = ps.length) (hl2 : bs.length = ps.length)
    (hb1 : ∀ j : Nat, j < ps.length → 0 ≤ ts.getD j 0 ∧ ts.getD j 0 ≤ 1073741824) (hb2 : ∀ j : Nat, j < ps.length → 0 ≤ bs.getD j 0 ∧ bs.getD j 0 ≤ 1073741824) (hs : (clsL ts ps D).sum = (clsL bs ps D).sum)
    (hc : ∀ j, j < ps.length → PtAt w b (off + j * 3) (ps.getD j default))
    (T0 : TkR w (.slice (some ⟨b, off, none⟩) ps.length cap) ps.length u 1099511627776 ts 0) (B0 : BsR w (.slice (some ⟨b, off, none⟩) ps.length cap) ps.length u c bs) :
    Calls Try.prog 8 #[.slice (some ⟨b, off, none⟩) ps.length cap, .int .i64 u, .int .i64 q] w fun x w' => x = .returned (.bool true) ∧ Kpt w w' := by
  have T := Lib.hid T0
  have B := Lib.hid B0
  have K0 : Hid (Kpt w w) := Kpt.refl w
  have HC := Lib.hid hc
  have L1 := Lib.hid hl1
  have L2 := Lib.hid hl2
  have X1 := Lib.hid (clsL_bd ts ps D hb1)
  have X2 := Lib.hid (clsL_bd bs ps D hb2)
  have Y1 := Lib.hid hb1
  have Y2 := Lib.hid hb2
  have HS := Lib.hid hs
  have S1 := Lib.hid (fun k (h : k < ps.length) => clsL_take ts ps D h)
  have S2 := Lib.hid (fun k (h : k < ps.length) => clsL_take bs ps D h)
  have F1 : Hid ((clsL ts ps D).take ps.length = clsL ts ps D) := List.take_of_length_le (by simp [clsL])
  have F2 : Hid ((clsL bs ps D).take ps.length = clsL bs ps D) := List.take_of_length_le (by simp [clsL])
  have HD : Hid (w.cell? ⟨b, off + q * 3 + 2, none⟩ = some (.int .i64 D)) := by unfold Hid; rw [← hD]; exact (hc q hq).2.2
  have q0 : (0 : Int) ≤ (q : Int) := by omega
  have q1 : (q : Int) < ps.length := by omega
  have d1 : decide ((q : Int) < 0) = false := decide_eq_false (by omega)
  have d2 : decide ((ps.length : Int) ≤ (q : Int)) = false := decide_eq_false (by omega)
  have d3 : decide (ps.length ≤ q) = false := decide_eq_false (by omega)
  clear T0 B0 hc hl1 hl2 hb1 hb2 hs hD
  go_enter Try.func8, Try.ntmps8
  go_wp2_with (first
    | (go_at_call 16; (with_reducible refine (T.out.run _ K0.out).mono ?_); rintro e w1 ⟨g1, rfl, _, r1, k1⟩; have K0 := Lib.hid (ktr K0.out k1); have R1 := Lib.hid r1; clear k1 r1)
    | (go_at_call 29; (with_reducible refine (B.out.run _ K0.out).mono ?_); rintro e w1 ⟨g2, rfl, _, r2, k1⟩; have K0 := Lib.hid (ktr K0.out k1); have R1 := Lib.hid (Row.kptL R1.out k1); have R2 := Lib.hid r2; clear k1 r2)
    | (go_at_call 26; (with_reducible refine (buyinBegun _).mono ?_); rintro e w1 ⟨rfl, k1⟩; have K0 := Lib.hid (ktr K0.out k1); have R1 := Lib.hid (Row.kptL R1.out k1); have R2 := Lib.hid (Row.kptL R2.out k1); clear k1)
    | (go_at_call 30; (with_reducible refine (loanBegun _).mono ?_); rintro e w1 ⟨rfl, k1⟩; have K0 := Lib.hid (ktr K0.out k1); have R1 := Lib.hid (Row.kptL R1.out k1); have R2 := Lib.hid (Row.kptL R2.out k1); clear k1))
  go_loopw [13, 14, 15] (fun vx vy vi wr => ∃ (k : Nat) (x y : Int), k ≤ ps.length ∧ vi = .int .i64 k ∧ vx = .int .i64 x ∧ vy = .int .i64 y ∧ Hid (x = ((clsL ts ps D).take k).sum ∧ y = ((clsL bs ps D).take k).sum) ∧ Hid (Row wr g1 ts) ∧ Hid (Row wr g2 bs) ∧ Hid (Kpt w wr)) (fun _ _ vi _ => ps.length - (intOf vi).toNat)
  case atStart => exact ⟨0, 0, 0, Nat.zero_le _, rfl, rfl, rfl, ⟨by simp, by simp⟩, R1.out, R2.out, K0.out⟩
  case round =>
    obtain ⟨k, x, y, hk, rfl, rfl, rfl, HXY, HR1, HR2, HK⟩ := hrel
    clear R1 R2 K0
    by_cases hlt : k < ps.length
    · have bx := X1.out k hk
      have by' := X2.out k hk
      rw [← HXY.out.1] at bx
      rw [← HXY.out.2] at by'
      have s1 := S1.out k hlt
      have s2 := S2.out k hlt
      rw [← HXY.out.1] at s1
      rw [← HXY.out.2] at s2
      have c1 := HR1.out.cell (j := k) (by rw [L1.out]; exact hlt)
      have c2 := HR2.out.cell (j := k) (by rw [L2.out]; exact hlt)
      obtain ⟨-, -, c3⟩ := (HC.out k hlt).kpt HK.out
      have c4 := HK.out.cell HD.out
      have y1 := Y1.out k hlt
      have y2 := Y2.out k hlt
      generalize ts.getD k 0 = t at *
      generalize bs.getD k 0 = r at *
      generalize (ps.getD k default).2.2 = C at *
      have k0 : (0 : Int) ≤ (k : Int) := by omega
      have k1 : (k : Int) < ps.length := by omega
      have hk40 : (k : Int) ≤ 40 := by omega
      have m1 : IntKind.i64.wrap (x + t) = x + t := IntWalk.i64_in _ (by omega)
      have m2 : IntKind.i64.wrap (y + r) = y + r := IntWalk.i64_in _ (by omega)
      by_cases hC : C = D
      · rw [if_pos hC] at s1 s2
        have E1 : Hid (x + t = ((clsL ts ps D).take (k + 1)).sum ∧ y + r = ((clsL bs ps D).take (k + 1)).sum) := ⟨s1.symm, s2.symm⟩
        have d4 : (C == D) = true := beq_iff_eq.2 hC
        clear s1 s2 hC bx by' y1 y2
        go_wp2
        go_quiet (fail)
        go_wp2
        go_roundw
        case rel => exact ⟨k + 1, x + t, y + r, by omega, by go_num, rfl, rfl, E1.out, HR1.out.below (below_drewN (Below.refl _ _) _) HR1.out.lt, HR2.out.below (below_drewN (Below.refl _ _) _) HR2.out.lt, HK.out.drewN _⟩
        case measure => simp [intOf]; omega
      · rw [if_neg hC, Int.add_zero] at s1 s2
        have E1 : Hid (x = ((clsL ts ps D).take (k + 1)).sum ∧ y = ((clsL bs ps D).take (k + 1)).sum) := ⟨s1.symm, s2.symm⟩
        have d4 : (C == D) = false := beq_eq_false_iff_ne.2 hC
        clear s1 s2 hC bx by' y1 y2
        go_wp2
        go_quiet (fail)
        go_wp2
        go_roundw
        case rel => exact ⟨k + 1, x, y, by omega, by go_num, rfl, rfl, E1.out, HR1.out.below (below_drewN (Below.refl _ _) _) HR1.out.lt, HR2.out.below (below_drewN (Below.refl _ _) _) HR2.out.lt, HK.out.drewN _⟩
        case measure => simp [intOf]; omega
    · obtain rfl : k = ps.length := by omega
      have h := HXY.out
      rw [F1.out, F2.out] at h
      obtain rfl : x = y := by rw [h.1, h.2, HS.out]
      clear h
      go_wp2
      go_ret
      exact ⟨rfl, HK.out⟩

theorem bsame_plain (v : Value) (u q : Int) (ps : List (Int × Int × Int)) (w : World) (hr : ReadsP w v ps) : Calls Try.prog 8 #[v, .int .i64 u, .int .i64 q] w fun x w' => x = .returned (.bool true) ∧ Kpt w w' := by
  obtain ⟨a, cap, rfl, -, -, -, -⟩ := id hr
  have hpm : prcB 1099511627776 = true := prc_mk (by decide) (by decide)
  rcases take_way a cap ps u 1099511627776 w hr with ⟨E, hE, e, T⟩ | ⟨hE, T⟩
  · have hW : wantE ps u ≠ 0 := fun h => by
      obtain ⟨h0, h1, _⟩ := want_0 h
      have : takE ps u 1099511627776 = 0 := by unfold takE forE; rw [if_pos h0, if_pos h1, if_pos rfl, if_pos hpm]
      exact hE (e ▸ this)
    exact bsame_no _ u q E _ hE hW w T fun w' k => best_bad _ ps u w' (hr.kpt k) hW
  · by_cases hW : wantE ps u = 0
    · obtain ⟨h0, h1, _⟩ := want_0 hW
      obtain ⟨h40, hall⟩ := loan_0 h0
      have hb := best_is hW
      have ht := take_is_ok (u := u) (lim := 1099511627776) h0 (by omega)
      rw [(same_cls hW 0).1] at T
      have B : BsR w (.slice a ps.length cap) ps.length u (bestR ps u).2 (bestR ps u).1 := fun w' k => best_ok _ ps u w' (hr.kpt k) hW
      by_cases hq : 0 ≤ q ∧ q < ps.length
      · obtain ⟨n, rfl⟩ : ∃ n : Nat, q = (n : Int) := ⟨q.toNat, by omega⟩
        have hn : n < ps.length := by omega
        have hU : ∀ j : Nat, j < ps.length → (ps.getD j default).2.1 ≤ 1073741824 := fun j hj => (off_t (hall _ (getP_mem hj))).2.2.2.1
        rcases id hr.cell with ⟨e, _⟩ | ⟨_, b, off, cap', e, hc⟩
        · rw [e] at hn; simp at hn
        · injection e with e1 _ e3
          subst e1 e3
          exact bsame_ok b off cap ps u _ n _ _ _ w h40 hn rfl ht.len hb.len (fun j hj => ⟨(ht.bd j hj).1, Int.le_trans (ht.bd j hj).2 (hU j hj)⟩) (fun j hj => ⟨(hb.bd j hj).1, Int.le_trans (hb.bd j hj).2 (hU j hj)⟩) (same_cls hW _).2 hc T B
      · exact bsame_far a cap ps.length u q _ _ _ h40 (by omega) w T B
    · exact bsame_none _ ps.length u q _ _ _ hW w T fun w' k => best_bad _ ps u w' (hr.kpt k) hW

end Go.Proofs.Ytoakibgekeajeaa
