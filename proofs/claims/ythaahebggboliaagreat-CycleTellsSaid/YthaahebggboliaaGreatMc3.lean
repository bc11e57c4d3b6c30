/-
  Merged: CalE, CalM, CalF, CalG, CalH, CalI, CalJ, CalK.
-/
import Derived.Test.YthaahebggboliaaGreatMc2
import Derived.Deep.RegionHeld3
import Derived.IntWalk
-- CalE
namespace Go.Proofs.YthaahebggboliaaGreat
open Go.RowKit
set_option linter.unusedVariables false

theorem far_up {n : Int} (h0 : 0 ≤ n) (h1 : n ≤ 3652059) : Far n 1 (3652059 - n).toNat :=
  ⟨.inl rfl, fun k hk => by omega, .inr (by omega), by omega⟩
theorem far_dn {n : Int} (h0 : -1 ≤ n) (h1 : n ≤ 3652058) : Far n (-1) (n + 1).toNat :=
  ⟨.inr rfl, fun k hk => by omega, .inl (by omega), by omega⟩
/-- the many-th business day from a day on; up to a day -/
def upR (W : Int) (hs : List Int) (n : Int) (m : Nat) : Int := nthR (vis (bizB W hs) n 1 (3652059 - n).toNat) m
def upE (W : Int) (hs : List Int) (n : Int) (m : Nat) : Int := nthE (vis (bizB W hs) n 1 (3652059 - n).toNat) m
def dnR (W : Int) (hs : List Int) (n : Int) (m : Nat) : Int := nthR (vis (bizB W hs) n (-1) (n + 1).toNat) m
def dnE (W : Int) (hs : List Int) (n : Int) (m : Nat) : Int := nthE (vis (bizB W hs) n (-1) (n + 1).toNat) m

/-- 'the days from start on, in a direction', as business hands them back -/
def BizF (W : Int) (v : Value) (hs : List Int) (start dir : Int) (w : World) (e : Ending) (w' : World) : Prop :=
  ∃ b4 b5 b3, e = .returned (.func (.func 154) #[] #[.pointer (some ⟨b4, 0, none⟩), .pointer (some ⟨b5, 0, none⟩), .pointer (some ⟨b3, 0, none⟩)]) ∧ Held w' W v hs start dir b4 b5 b3 ∧ Grew w w'
theorem business_is (W start dir : Int) (v : Value) (hs : List Int) (w : World) (hr : Reads w v hs) :
    Calls Tryz.prog 127 #[calV W v, .int .i64 start, .int .i64 dir] w (BizF W v hs start dir w) :=
  (business_any W start dir v hs w hr).mono fun e w' h => ⟨_, _, _, h.1, h.2⟩

theorem nth_up (W : Int) (a : Option Addr) (cap : Nat) (hs : List Int) (n : Int) (h0 : 0 ≤ n) (h1 : n ≤ 3652059) (b4 b5 b3 : Nat) (many : Int) (m0 : 1 ≤ many) (m1 : many ≤ 1000) (hE : calE W hs = 0) (w : World) (hH : Held w W (.slice a hs.length cap) hs n 1 b4 b5 b3) :
    Calls Tryz.prog 126 #[.func (.func 154) #[] #[.pointer (some ⟨b4, 0, none⟩), .pointer (some ⟨b5, 0, none⟩), .pointer (some ⟨b3, 0, none⟩)], .int .i64 many] w fun e w' => e = .returned (.tuple #[.int .i64 (upR W hs n many.toNat), .int .i64 (upE W hs n many.toNat)]) ∧ Kpt w w' := by
  have := nth_biz W a cap hs n 1 _ b4 b5 b3 many.toNat (by omega) (by omega) hE (far_up h0 h1) w hH
  rw [show ((many.toNat : Nat) : Int) = many by omega] at this
  exact this
theorem nth_dn (W : Int) (a : Option Addr) (cap : Nat) (hs : List Int) (n : Int) (h0 : -1 ≤ n) (h1 : n ≤ 3652058) (b4 b5 b3 : Nat) (many : Int) (m0 : 1 ≤ many) (m1 : many ≤ 1000) (hE : calE W hs = 0) (w : World) (hH : Held w W (.slice a hs.length cap) hs n (-1) b4 b5 b3) :
    Calls Tryz.prog 126 #[.func (.func 154) #[] #[.pointer (some ⟨b4, 0, none⟩), .pointer (some ⟨b5, 0, none⟩), .pointer (some ⟨b3, 0, none⟩)], .int .i64 many] w fun e w' => e = .returned (.tuple #[.int .i64 (dnR W hs n many.toNat), .int .i64 (dnE W hs n many.toNat)]) ∧ Kpt w w' := by
  have := nth_biz W a cap hs n (-1) _ b4 b5 b3 many.toNat (by omega) (by omega) hE (far_dn h0 h1) w hH
  rw [show ((many.toNat : Nat) : Int) = many by omega] at this
  exact this

/-- checkDays of one day, where a calendar was boxed -/
theorem check1 (W n : Int) (a : Option Addr) (cap : Nat) (hs : List Int) (w : World) (hr : Reads w (.slice a hs.length cap) hs) (hf : Fits hs) :
    Calls Tryz.prog 125 #[calV W (.slice a hs.length cap), .slice (some ⟨w.heap.size + 1, 0, none⟩) 1 1] ((w.alloc (.cells #[.int .i64 W, .slice a hs.length cap] 24)).alloc (.cells #[.int .i64 n] 3)) fun e w' => e = .returned (.int .i64 (daysE W hs [n])) ∧ Grew w w' ∧ w'.cell? ⟨w.heap.size, 0, none⟩ = some (.int .i64 W) ∧ w'.cell? ⟨w.heap.size, 1, none⟩ = some (.slice a hs.length cap) := by
  have := checkDays_any W (.slice a hs.length cap) hs [n] (w.heap.size + 1) 0 1 ((w.alloc (.cells #[.int .i64 W, .slice a hs.length cap] 24)).alloc (.cells #[.int .i64 n] 3)) (hr.grew (((Grew.refl w).alloc _ _).alloc _ _)) hf (by simp) (by
    have := one_cell (w.alloc (.cells #[.int .i64 W, .slice a hs.length cap] 24)) n
    rw [World.size_alloc] at this
    exact this)
  refine this.mono ?_
  rintro e w' ⟨rfl, g⟩
  exact ⟨rfl, gtr (((Grew.refl w).alloc _ _).alloc _ _) g, g.cell (p := ⟨w.heap.size, 0, none⟩) (v := .int .i64 W) (by simp; omega) (by simp [go_sem]), g.cell (p := ⟨w.heap.size, 1, none⟩) (v := .slice a hs.length cap) (by simp; omega) (by simp [go_sem])⟩

end Go.Proofs.YthaahebggboliaaGreat

-- CalM
namespace Go.Proofs.YthaahebggboliaaGreat
open Go.RowKit
set_option linter.unusedVariables false

/-- how many of the k days behind a -/
def cntN (β : Int → Bool) (a : Int) : Nat → Nat
  | 0 => 0
  | k + 1 => cntN β a k + if β (a + (k : Int) + 1) = true then 1 else 0
/-- how many behind a, up to b -/
def cnt (β : Int → Bool) (a b : Int) : Nat := cntN β a (b - a).toNat
theorem cnt_self (β : Int → Bool) (a : Int) : cnt β a a = 0 := by unfold cnt; rw [Int.sub_self]; rfl
theorem cnt_succ (β : Int → Bool) {a b : Int} (h : a ≤ b) : cnt β a (b + 1) = cnt β a b + if β (b + 1) = true then 1 else 0 := by
  unfold cnt
  rw [show (b + 1 - a).toNat = (b - a).toNat + 1 by omega, cntN, show a + (((b - a).toNat : Nat) : Int) + 1 = b + 1 by omega]
theorem cnt_add (β : Int → Bool) {a b c : Int} (h : a ≤ b) (k : b ≤ c) : cnt β a c = cnt β a b + cnt β b c := by
  obtain ⟨j, rfl⟩ : ∃ j : Nat, c = b + j := ⟨(c - b).toNat, by omega⟩
  clear k
  induction j with
  | zero => rw [show b + ((0 : Nat) : Int) = b by omega, cnt_self]; rfl
  | succ j ih =>
    rw [show b + ((j + 1 : Nat) : Int) = b + (j : Int) + 1 by omega, cnt_succ β (show a ≤ b + (j : Int) by omega), cnt_succ β (show b ≤ b + (j : Int) by omega), ih]
    omega
theorem cnt_pre (β : Int → Bool) {a b : Int} (h : a ≤ b) : cnt β (a - 1) b = (if β a = true then 1 else 0) + cnt β a b := by
  rw [cnt_add β (show a - 1 ≤ a by omega) h]
  have := cnt_succ β (Int.le_refl (a - 1))
  rw [show a - 1 + 1 = a by omega, cnt_self] at this
  rw [this]; omega
theorem cnt_le (β : Int → Bool) (a b : Int) : cnt β a b ≤ (b - a).toNat := by
  unfold cnt
  generalize (b - a).toNat = k
  induction k with
  | zero => exact Nat.le_refl _
  | succ k ih => rw [cntN]; split <;> omega
theorem cnt_mono (β : Int → Bool) {a b c : Int} (h : a ≤ b) (k : b ≤ c) : cnt β a b ≤ cnt β a c := by rw [cnt_add β h k]; omega
/-- one at the end -/
theorem cnt_end (β : Int → Bool) {a b : Int} (h : a < b) (hb : β b = true) : cnt β a b = cnt β a (b - 1) + 1 := by
  have := cnt_succ β (show a ≤ b - 1 by omega)
  rw [show b - 1 + 1 = b by omega, if_pos hb] at this
  exact this
theorem cnt_at (β : Int → Bool) {a b : Int} (h : a ≤ b) (hb : β a = true) : cnt β (a - 1) b = cnt β a b + 1 := by
  rw [cnt_pre β h, if_pos hb]; omega
theorem cnt_pos {β : Int → Bool} {a b x : Int} (h : a < x) (k : x ≤ b) (hx : β x = true) : 1 ≤ cnt β a b := by
  rw [cnt_add β (Int.le_of_lt h) k, cnt_end β h hx]; omega
theorem cnt_none {β : Int → Bool} {a b : Int} (h0 : a ≤ b) (h : cnt β a b = 0) {x : Int} (h1 : a < x) (h2 : x ≤ b) : β x = false := by
  cases e : β x with
  | false => rfl
  | true => have := cnt_pos h1 h2 e; omega
/-- of two of them with as many ahead -/
theorem cnt_inj {β : Int → Bool} {n k l : Int} (hk : n < k) (hl : n < l) (bk : β k = true) (bl : β l = true) (h : cnt β n k = cnt β n l) : k = l := by
  rcases Int.lt_trichotomy k l with g | g | g
  · have := cnt_add β (Int.le_of_lt hk) (Int.le_of_lt g)
    have := cnt_pos g (Int.le_refl _) bl
    omega
  · exact g
  · have := cnt_add β (Int.le_of_lt hl) (Int.le_of_lt g)
    have := cnt_pos g (Int.le_refl _) bk
    omega
theorem cnt_inj_dn {β : Int → Bool} {n k l : Int} (hk : k ≤ n) (hl : l ≤ n) (bk : β k = true) (bl : β l = true) (h : cnt β (k - 1) n = cnt β (l - 1) n) : k = l := by
  rcases Int.lt_trichotomy k l with g | g | g
  · have := cnt_add β (show k - 1 ≤ l - 1 by omega) (show l - 1 ≤ n by omega)
    have := cnt_pos (show k - 1 < k by omega) (show k ≤ l - 1 by omega) bk
    omega
  · exact g
  · have := cnt_add β (show l - 1 ≤ k - 1 by omega) (show k - 1 ≤ n by omega)
    have := cnt_pos (show l - 1 < l by omega) (show l ≤ k - 1 by omega) bl
    omega
theorem cnt_congr {β γ : Int → Bool} {a b : Int} (h : ∀ x, a < x → x ≤ b → β x = γ x) : cnt β a b = cnt γ a b := by
  unfold cnt
  have : ∀ k : Nat, (k : Int) ≤ b - a → cntN β a k = cntN γ a k := by
    intro k
    induction k with
    | zero => intro _; rfl
    | succ k ih => intro hk; rw [cntN, cntN, ih (by omega), h _ (by omega) (by omega)]
  by_cases e : a ≤ b
  · exact this _ (by omega)
  · rw [show (b - a).toNat = 0 by omega]; rfl

theorem vis_up (β : Int → Bool) (a : Int) (k : Nat) : (vis β (a + 1) 1 k).length = cnt β a (a + k) := by
  induction k with
  | zero => rw [show a + ((0 : Nat) : Int) = a by omega, cnt_self]; rfl
  | succ k ih =>
    rw [show a + ((k + 1 : Nat) : Int) = a + (k : Int) + 1 by omega, cnt_succ β (by omega), ← ih]
    cases hb : β (a + 1 + 1 * (k : Int)) with
    | true => rw [vis_t hb, show a + (k : Int) + 1 = a + 1 + 1 * (k : Int) by omega, if_pos hb]; simp
    | false => rw [vis_f hb, show a + (k : Int) + 1 = a + 1 + 1 * (k : Int) by omega, if_neg (by rw [hb]; simp)]; simp
theorem vis_dn (β : Int → Bool) (b : Int) (k : Nat) : (vis β b (-1) k).length = cnt β (b - k) b := by
  induction k with
  | zero => rw [show b - ((0 : Nat) : Int) = b by omega, cnt_self]; rfl
  | succ k ih =>
    rw [show b - ((k + 1 : Nat) : Int) = b - (k : Int) - 1 by omega, cnt_pre β (by omega), ← ih]
    cases hb : β (b + -1 * (k : Int)) with
    | true => rw [vis_t hb, show b - (k : Int) = b + -1 * (k : Int) by omega, if_pos hb]; simp; omega
    | false => rw [vis_f hb, show b - (k : Int) = b + -1 * (k : Int) by omega, if_neg (by rw [hb]; simp)]; simp
theorem vis_get {β : Int → Bool} {s d : Int} {T m : Nat} (h1 : 1 ≤ m) (h2 : m ≤ (vis β s d T).length) :
    ∃ j : Nat, j < T ∧ nthR (vis β s d T) m = s + d * (j : Int) ∧ β (s + d * (j : Int)) = true ∧ (vis β s d (j + 1)).length = m := by
  induction T with
  | zero => exact absurd h2 (by simp [vis]; omega)
  | succ T ih =>
    by_cases g : m ≤ (vis β s d T).length
    · obtain ⟨j, j1, j2, j3, j4⟩ := ih g
      refine ⟨j, by omega, ?_, j3, j4⟩
      obtain ⟨t, ht⟩ := vis_pre β s d (Nat.le_succ T)
      rw [← j2]
      unfold nthR
      rw [if_pos h2, if_pos g, List.getD_eq_getElem?_getD, List.getD_eq_getElem?_getD]
      show (vis β s d (T + 1))[m - 1]?.getD 0 = _
      have ht' : vis β s d (T + 1) = vis β s d T ++ t := ht.symm
      rw [ht', List.getElem?_append_left (by omega)]
    · cases hb : β (s + d * (T : Int)) with
      | false => rw [vis_f hb] at h2; omega
      | true =>
        have e : m = (vis β s d T).length + 1 := by rw [vis_t hb] at h2; simp at h2; omega
        refine ⟨T, by omega, ?_, hb, by rw [vis_t hb, e]; simp⟩
        rw [e, vis_t hb]
        exact (nth_in (List.prefix_refl _)).1

theorem up_cases (W : Int) (hs : List Int) {n : Int} {m : Nat} (h0 : -1 ≤ n) (h1 : n ≤ 3652058) (hm : 1 ≤ m) :
    (upE W hs (n + 1) m = 0 ∧ n < upR W hs (n + 1) m ∧ upR W hs (n + 1) m ≤ 3652058 ∧ bizB W hs (upR W hs (n + 1) m) = true ∧ cnt (bizB W hs) n (upR W hs (n + 1) m) = m) ∨
    (upE W hs (n + 1) m = 8 ∧ upR W hs (n + 1) m = 0 ∧ cnt (bizB W hs) n 3652058 < m) := by
  unfold upE upR
  have hT : (vis (bizB W hs) (n + 1) 1 (3652059 - (n + 1)).toNat).length = cnt (bizB W hs) n 3652058 := by
    rw [vis_up, show n + (((3652059 - (n + 1)).toNat : Nat) : Int) = 3652058 by omega]
  by_cases g : m ≤ (vis (bizB W hs) (n + 1) 1 (3652059 - (n + 1)).toNat).length
  · left
    obtain ⟨j, j1, j2, j3, j4⟩ := vis_get hm g
    rw [j2]
    refine ⟨?_, by omega, by omega, j3, ?_⟩
    · unfold nthE; rw [if_pos g]
    · rw [vis_up] at j4
      rw [← j4]
      exact congrArg _ (by omega)
  · right
    obtain ⟨e1, e2⟩ := nth_out (show (vis (bizB W hs) (n + 1) 1 (3652059 - (n + 1)).toNat).length < m by omega)
    exact ⟨e2, e1, by omega⟩
theorem dn_cases (W : Int) (hs : List Int) {n : Int} {m : Nat} (h0 : -1 ≤ n) (h1 : n ≤ 3652058) (hm : 1 ≤ m) :
    (dnE W hs n m = 0 ∧ 0 ≤ dnR W hs n m ∧ dnR W hs n m ≤ n ∧ bizB W hs (dnR W hs n m) = true ∧ cnt (bizB W hs) (dnR W hs n m - 1) n = m) ∨
    (dnE W hs n m = 8 ∧ dnR W hs n m = 0 ∧ cnt (bizB W hs) (-1) n < m) := by
  unfold dnE dnR
  have hT : (vis (bizB W hs) n (-1) (n + 1).toNat).length = cnt (bizB W hs) (-1) n := by
    rw [vis_dn, show n - (((n + 1).toNat : Nat) : Int) = -1 by omega]
  by_cases g : m ≤ (vis (bizB W hs) n (-1) (n + 1).toNat).length
  · left
    obtain ⟨j, j1, j2, j3, j4⟩ := vis_get hm g
    rw [j2]
    refine ⟨?_, by omega, by omega, j3, ?_⟩
    · unfold nthE; rw [if_pos g]
    · rw [vis_dn] at j4
      rw [← j4]
      rw [show n + -1 * (j : Int) - 1 = n - ((j + 1 : Nat) : Int) by omega]
  · right
    obtain ⟨e1, e2⟩ := nth_out (show (vis (bizB W hs) n (-1) (n + 1).toNat).length < m by omega)
    exact ⟨e2, e1, by omega⟩

end Go.Proofs.YthaahebggboliaaGreat

-- CalF
namespace Go.Proofs.YthaahebggboliaaGreat
open Go.RowKit
set_option linter.unusedVariables false

set_option maxRecDepth 100000 in
theorem step_bad (W n many : Int) (v : Value) (hs : List Int) (w : World) (hr : Reads w v hs) (hf : Fits hs) (hE : daysE W hs [n] ≠ 0) :
    Calls Tryz.prog 89 #[calV W v, .int .i64 n, .int .i64 many] w fun e w' => e = .returned (.tuple #[.int .i64 0, .int .i64 (daysE W hs [n])]) ∧ Kpt w w' := by
  obtain ⟨a, cap, rfl, hm, hc⟩ := id hr
  have CK := Lib.hid (check1 W n a cap hs w hr hf)
  generalize daysE W hs [n] = x at CK hE ⊢
  have q : (x == 0) = false := beq_eq_false_iff_ne.2 hE
  clear hr hm hc hE
  go_enter Tryz.func89, Tryz.ntmps89
  go_wp2_with (first
    | (go_at_call 125; (with_reducible refine CK.out.mono ?_); rintro e w1 ⟨rfl, g1, c0, c1⟩; have G1 := Lib.hid g1; clear g1))
  go_ret2
  exact ⟨rfl, G1.out.kpt⟩
set_option maxRecDepth 100000 in
theorem step_low (W n many : Int) (v : Value) (hs : List Int) (hm : many < -500) (w : World) (hr : Reads w v hs) (hf : Fits hs) (hE : daysE W hs [n] = 0) :
    Calls Tryz.prog 89 #[calV W v, .int .i64 n, .int .i64 many] w fun e w' => e = .returned (.tuple #[.int .i64 0, .int .i64 3]) ∧ Kpt w w' := by
  obtain ⟨hE0, n0, n1⟩ := daysE_1 hE
  obtain ⟨a, cap, rfl, hm, hc⟩ := id hr
  have CK := Lib.hid (hE ▸ check1 W n a cap hs w hr hf)
  clear hr hm hc hE hE0 hf
  go_enter Tryz.func89, Tryz.ntmps89
  go_wp2_with (first
    | (go_at_call 125; (with_reducible refine CK.out.mono ?_); rintro e w1 ⟨rfl, g1, c0, c1⟩; have G1 := Lib.hid g1; clear g1))
  go_ret2
  exact ⟨rfl, G1.out.kpt⟩
set_option maxRecDepth 100000 in
theorem step_high (W n many : Int) (v : Value) (hs : List Int) (hm2 : 500 < many) (w : World) (hr : Reads w v hs) (hf : Fits hs) (hE : daysE W hs [n] = 0) :
    Calls Tryz.prog 89 #[calV W v, .int .i64 n, .int .i64 many] w fun e w' => e = .returned (.tuple #[.int .i64 0, .int .i64 3]) ∧ Kpt w w' := by
  obtain ⟨hE0, n0, n1⟩ := daysE_1 hE
  obtain ⟨a, cap, rfl, hm, hc⟩ := id hr
  have CK := Lib.hid (hE ▸ check1 W n a cap hs w hr hf)
  clear hr hm hc hE hE0 hf
  have hm3 : ¬ many < -500 := by omega
  go_enter Tryz.func89, Tryz.ntmps89
  go_wp2_with (first
    | (go_at_call 125; (with_reducible refine CK.out.mono ?_); rintro e w1 ⟨rfl, g1, c0, c1⟩; have G1 := Lib.hid g1; clear g1))
  go_ret2
  exact ⟨rfl, G1.out.kpt⟩
set_option maxRecDepth 100000 in
theorem step_zero (W n many : Int) (v : Value) (hs : List Int) (hz : many = 0) (w : World) (hr : Reads w v hs) (hf : Fits hs) (hE : daysE W hs [n] = 0) :
    Calls Tryz.prog 89 #[calV W v, .int .i64 n, .int .i64 many] w fun e w' => e = .returned (.tuple #[.int .i64 n, .int .i64 0]) ∧ Kpt w w' := by
  obtain ⟨hE0, n0, n1⟩ := daysE_1 hE
  obtain ⟨a, cap, rfl, hm, hc⟩ := id hr
  have CK := Lib.hid (hE ▸ check1 W n a cap hs w hr hf)
  clear hr hm hc hE hE0 hf
  subst hz
  go_enter Tryz.func89, Tryz.ntmps89
  go_wp2_with (first
    | (go_at_call 125; (with_reducible refine CK.out.mono ?_); rintro e w1 ⟨rfl, g1, c0, c1⟩; have G1 := Lib.hid g1; clear g1))
  go_ret2
  exact ⟨rfl, G1.out.kpt⟩
set_option maxRecDepth 100000 in
set_option maxHeartbeats 1000000 in
theorem step_up (W n many : Int) (v : Value) (hs : List Int) (m0 : 1 ≤ many) (m1 : many ≤ 500) (w : World) (hr : Reads w v hs) (hf : Fits hs) (hE : daysE W hs [n] = 0) :
    Calls Tryz.prog 89 #[calV W v, .int .i64 n, .int .i64 many] w fun e w' => e = .returned (.tuple #[.int .i64 (upR W hs (n + 1) many.toNat), .int .i64 (upE W hs (n + 1) many.toNat)]) ∧ Kpt w w' := by
  obtain ⟨hE0, n0, n1⟩ := daysE_1 hE
  obtain ⟨a, cap, rfl, hm, hc⟩ := id hr
  have CK := Lib.hid (hE ▸ check1 W n a cap hs w hr hf)
  have BU := Lib.hid (fun w' (g : Grew w w') => business_is W (n + 1) 1 _ hs w' (hr.grew g))
  have NT := Lib.hid (fun b4 b5 b3 => nth_up W a cap hs (n + 1) (by omega) (by omega) b4 b5 b3 many (by omega) (by omega) hE0)
  clear hr hm hc hE hE0 hf
  generalize upR W hs (n + 1) many.toNat = x at NT ⊢
  generalize upE W hs (n + 1) many.toNat = y at NT ⊢
  go_enter Tryz.func89, Tryz.ntmps89
  go_wp2_with (first
    | (go_at_call 125; (with_reducible refine CK.out.mono ?_); rintro e w1 ⟨rfl, g1, c0, c1⟩; have G1 := Lib.hid g1; clear g1)
    | (go_at_call 127; (with_reducible refine (BU.out _ G1.out).mono ?_); rintro e w2 ⟨b4, b5, b3, rfl, hH, g2⟩; have HH := Lib.hid hH; have G2 := Lib.hid g2; clear hH g2)
    | (go_at_call 126; (with_reducible refine (NT.out _ _ _ _ HH.out).mono ?_); rintro e w3 ⟨rfl, g3⟩; have G3 := Lib.hid g3; clear g3))
  go_ret2
  exact ⟨rfl, ktr (gtr G1.out G2.out).kpt G3.out⟩
set_option maxRecDepth 100000 in
set_option maxHeartbeats 1000000 in
theorem step_dn (W n many : Int) (v : Value) (hs : List Int) (m0 : many ≤ -1) (m1 : -500 ≤ many) (w : World) (hr : Reads w v hs) (hf : Fits hs) (hE : daysE W hs [n] = 0) :
    Calls Tryz.prog 89 #[calV W v, .int .i64 n, .int .i64 many] w fun e w' => e = .returned (.tuple #[.int .i64 (dnR W hs (n - 1) (-many).toNat), .int .i64 (dnE W hs (n - 1) (-many).toNat)]) ∧ Kpt w w' := by
  obtain ⟨hE0, n0, n1⟩ := daysE_1 hE
  obtain ⟨a, cap, rfl, hm, hc⟩ := id hr
  have CK := Lib.hid (hE ▸ check1 W n a cap hs w hr hf)
  have BU := Lib.hid (fun w' (g : Grew w w') => business_is W (n - 1) (-1) _ hs w' (hr.grew g))
  have NT := Lib.hid (fun b4 b5 b3 => nth_dn W a cap hs (n - 1) (by omega) (by omega) b4 b5 b3 (-many) (by omega) (by omega) hE0)
  clear hr hm hc hE hE0 hf
  generalize dnR W hs (n - 1) (-many).toNat = x at NT ⊢
  generalize dnE W hs (n - 1) (-many).toNat = y at NT ⊢
  go_enter Tryz.func89, Tryz.ntmps89
  go_wp2_with (first
    | (go_at_call 125; (with_reducible refine CK.out.mono ?_); rintro e w1 ⟨rfl, g1, c0, c1⟩; have G1 := Lib.hid g1; clear g1)
    | (go_at_call 127; (with_reducible refine (BU.out _ G1.out).mono ?_); rintro e w2 ⟨b4, b5, b3, rfl, hH, g2⟩; have HH := Lib.hid hH; have G2 := Lib.hid g2; clear hH g2)
    | (go_at_call 126; (with_reducible refine (NT.out _ _ _ _ HH.out).mono ?_); rintro e w3 ⟨rfl, g3⟩; have G3 := Lib.hid g3; clear g3))
  go_ret2
  exact ⟨rfl, ktr (gtr G1.out G2.out).kpt G3.out⟩

/-- what Step answers -/
def stpR (W : Int) (hs : List Int) (n many : Int) : Int := if many < -500 ∨ 500 < many then 0 else if many = 0 then n else if 0 < many then upR W hs (n + 1) many.toNat else dnR W hs (n - 1) (-many).toNat
def stpE (W : Int) (hs : List Int) (n many : Int) : Int := if many < -500 ∨ 500 < many then 3 else if many = 0 then 0 else if 0 < many then upE W hs (n + 1) many.toNat else dnE W hs (n - 1) (-many).toNat
theorem step_ok (W n many : Int) (v : Value) (hs : List Int) (w : World) (hr : Reads w v hs) (hf : Fits hs) (hE : daysE W hs [n] = 0) :
    Calls Tryz.prog 89 #[calV W v, .int .i64 n, .int .i64 many] w fun e w' => e = .returned (.tuple #[.int .i64 (stpR W hs n many), .int .i64 (stpE W hs n many)]) ∧ Kpt w w' := by
  unfold stpR stpE
  by_cases a : many < -500 ∨ 500 < many
  · rw [if_pos a, if_pos a]
    rcases a with a | a
    · exact step_low W n many v hs a w hr hf hE
    · exact step_high W n many v hs a w hr hf hE
  · rw [if_neg a, if_neg a]
    by_cases b : many = 0
    · rw [if_pos b, if_pos b]; exact step_zero W n many v hs b w hr hf hE
    · rw [if_neg b, if_neg b]
      by_cases c : 0 < many
      · rw [if_pos c, if_pos c]; exact step_up W n many v hs (by omega) (by omega) w hr hf hE
      · rw [if_neg c, if_neg c]; exact step_dn W n many v hs (by omega) (by omega) w hr hf hE

end Go.Proofs.YthaahebggboliaaGreat

-- CalG
namespace Go.Proofs.YthaahebggboliaaGreat
open Go.RowKit
set_option linter.unusedVariables false

def ones (x : Nat) : Int := ((x % 2 + x / 2 % 2 + x / 4 % 2 + x / 8 % 2 + x / 16 % 2 + x / 32 % 2 + x / 64 % 2 : Nat) : Int)
theorem ones_bd (x : Nat) : 0 ≤ ones x ∧ ones x ≤ 7 := by unfold ones; omega
/-- what the library reckons -/
def onesA (x : Int) : Int := IntKind.u64.wrap (bits BinOp.and IntKind.u64 (x / 2) 6148914691236517205 + bits BinOp.and IntKind.u64 x 6148914691236517205)
def onesB (a : Int) : Int := IntKind.u64.wrap (bits BinOp.and IntKind.u64 (a / 4) 3689348814741910323 + bits BinOp.and IntKind.u64 a 3689348814741910323)
def onesC (b : Int) : Int := bits BinOp.and IntKind.u64 (IntKind.u64.wrap (b / 16 + b)) 1085102592571150095
def onesD (c : Int) : Int := IntKind.u64.wrap (c + c / 256)
def onesF (d : Int) : Int := IntKind.u64.wrap (d + d / 65536)
def onesG (e : Int) : Int := IntKind.u64.wrap (e + e / 4294967296)
def onesE (x : Int) : Int := bits BinOp.and IntKind.i64 (wrap64 (onesG (onesF (onesD (onesC (onesB (onesA x))))))) 127
theorem onesE_is (x : Nat) (h : x ≤ 126) : onesE (x : Int) = ones x := by
  have : ∀ y : Fin 127, onesE ((y.val : Nat) : Int) = ones y.val := by decide +kernel
  exact this ⟨x, by omega⟩
set_option maxRecDepth 100000 in
theorem ones64 (x : Nat) (h : x ≤ 126) (w : World) :
    Calls Tryz.prog 168 #[.int .u64 x] w fun e w' => e = .returned (.int .i64 (ones x)) ∧ w = w' := by
  go_enter Tryz.func168, Tryz.ntmps168
  go_wp2
  go_ret
  refine ⟨ret_int ?_, rfl⟩
  exact onesE_is x h
theorem onesCount (x : Int) (h0 : 0 ≤ x) (h : x ≤ 126) (w : World) :
    Calls Tryz.prog 139 #[.int .u64 x] w fun e w' => e = .returned (.int .i64 (ones x.toNat)) ∧ w = w' := by
  have O := Lib.hid (fun w => ones64 x.toNat (by omega) w)
  rw [show ((x.toNat : Nat) : Int) = x by omega] at O
  go_enter Tryz.func139, Tryz.ntmps139
  go_wp2_with (go_at_call 168; (with_reducible refine (O.out _).mono ?_); rintro e w' ⟨rfl, rfl⟩)
  go_ret
  exact ⟨rfl, rfl⟩

/-- no day of the weekend -/
def wrkB (W n : Int) : Bool := !wkB W n
set_option maxRecDepth 100000 in
set_option maxHeartbeats 1000000 in
theorem workdays_any (W f t : Int) (a : Option Addr) (l cap : Nat) (h0 : 0 ≤ W) (h1 : W ≤ 126) (f0 : 0 ≤ f) (ft : f ≤ t) (t1 : t ≤ 3652058) (w : World) :
    Calls Tryz.prog 140 #[calV W (.slice a l cap), .int .i64 f, .int .i64 t] w fun e w' => e = .returned (.int .i64 (cnt (wrkB W) f t : Nat)) ∧ Grew w w' := by
  go_enter Tryz.func140, Tryz.ntmps140
  go_wp2
  go_loopw [7, 8] (fun c i wr => ∃ (n : Int) (k : Nat), i = .int .i64 (n + 1) ∧ c = .int .i64 k ∧ f ≤ n ∧ n ≤ t ∧ k ≤ 3652058 ∧ Hid (k = cnt (wrkB W) f n) ∧ wr.cell? ⟨w.heap.size, 0, none⟩ = some (.int .i64 W) ∧ wr.cell? ⟨w.heap.size, 1, none⟩ = some (.slice a l cap) ∧ Hid (Grew w wr)) (fun _ i _ => (t + 1 - intOf i).toNat)
  case atStart => exact ⟨f, 0, rfl, rfl, by omega, by omega, by omega, by unfold Hid; rw [cnt_self], by simp [go_sem], by simp [go_sem], (Grew.refl _).alloc _ _⟩
  case round =>
    obtain ⟨n, k, rfl, rfl, n0, n1, k1, HK, c0, c1, HG⟩ := hrel
    by_cases hlt : n + 1 ≤ t
    · have WK := Lib.hid (isWeekend_any W (n + 1) a l cap h0 h1 (by omega) (by omega) wr)
      have kb := cnt_le (wrkB W) f (n + 1)
      have cs := cnt_succ (wrkB W) n0
      unfold wrkB at cs
      cases hb : wkB W (n + 1) with
      | true =>
        rw [hb] at WK cs
        have HS : Hid (k = cnt (wrkB W) f (n + 1)) := by
          unfold Hid; rw [HK.out]; exact (show cnt (wrkB W) f (n + 1) = cnt (wrkB W) f n from cs).symm
        clear cs kb hb
        go_wp2_with (go_at_call 141; (with_reducible refine WK.out.mono ?_); rintro e w2 ⟨rfl, g2⟩; have d0 := g2.cell (cell_in c0) c0; have d1 := g2.cell (cell_in c1) c1; have G2 := Lib.hid g2; clear g2)
        go_roundw
        case rel => exact ⟨n + 1, k, rfl, rfl, by omega, by omega, k1, HS, d0, d1, gtr HG.out G2.out⟩
        case measure => simp [intOf]; omega
      | false =>
        rw [hb] at WK cs
        have HS : Hid (k + 1 = cnt (wrkB W) f (n + 1)) := by
          unfold Hid; rw [HK.out]; exact (show cnt (wrkB W) f (n + 1) = cnt (wrkB W) f n + 1 from cs).symm
        have kb2 : k + 1 ≤ 3652058 := by rw [HS.out]; omega
        clear cs kb hb
        go_wp2_with (go_at_call 141; (with_reducible refine WK.out.mono ?_); rintro e w2 ⟨rfl, g2⟩; have d0 := g2.cell (cell_in c0) c0; have d1 := g2.cell (cell_in c1) c1; have G2 := Lib.hid g2; clear g2)
        go_roundw
        case rel => exact ⟨n + 1, k + 1, rfl, by go_num, by omega, by omega, kb2, HS, d0, d1, gtr HG.out G2.out⟩
        case measure => simp [intOf]; omega
    · obtain rfl : n = t := by omega
      go_wp2
      go_ret
      exact ⟨ret_int (by rw [HK.out]), HG.out⟩

end Go.Proofs.YthaahebggboliaaGreat

-- CalH
namespace Go.Proofs.YthaahebggboliaaGreat
open Go.RowKit
set_option linter.unusedVariables false

/-- one day apart -/
theorem cnt_point {β γ : Int → Bool} {f t h : Int} (hne : ∀ x, x ≠ h → β x = γ x) (hb : β h = false) :
    cnt γ f t = cnt β f t + (if f < h ∧ h ≤ t ∧ γ h = true then 1 else 0) := by
  by_cases g : f < h ∧ h ≤ t
  · obtain ⟨g1, g2⟩ := g
    rw [cnt_add γ (show f ≤ h - 1 by omega) (show h - 1 ≤ t by omega), cnt_add β (show f ≤ h - 1 by omega) (show h - 1 ≤ t by omega)]
    rw [cnt_add γ (show h - 1 ≤ h by omega) g2, cnt_add β (show h - 1 ≤ h by omega) g2]
    have e1 : cnt β f (h - 1) = cnt γ f (h - 1) := cnt_congr fun x _ _ => hne x (by omega)
    have e2 : cnt β h t = cnt γ h t := cnt_congr fun x _ _ => hne x (by omega)
    have s1 := cnt_succ β (Int.le_refl (h - 1))
    have s2 := cnt_succ γ (Int.le_refl (h - 1))
    rw [show h - 1 + 1 = h by omega, cnt_self] at s1 s2
    rw [hb] at s1
    rw [e1, e2, s1, s2]
    cases hg : γ h with
    | true => simp [g1, g2]; omega
    | false => simp
  · have e1 : cnt β f t = cnt γ f t := cnt_congr fun x _ _ => hne x (by intro e; subst e; omega)
    rw [if_neg (fun k => g ⟨k.1, k.2.1⟩), e1]; rfl

theorem hol_strict {b : Int} {hs : List Int} (h : holE b hs = 0) : hs.Pairwise (· < ·) ∧ ∀ x ∈ hs, b < x ∧ 0 ≤ x ∧ x ≤ 3652058 := by
  induction hs generalizing b with
  | nil => exact ⟨List.Pairwise.nil, by simp⟩
  | cons a t ih =>
    rw [holE] at h
    by_cases h1 : 0 ≤ a ∧ a ≤ 3652058
    · rw [if_neg (by omega)] at h
      by_cases h2 : a = b
      · rw [if_pos h2] at h; cases h
      · rw [if_neg h2] at h
        by_cases h3 : a < b
        · rw [if_pos h3] at h; cases h
        · rw [if_neg h3] at h
          obtain ⟨i1, i2⟩ := ih h
          refine ⟨List.pairwise_cons.2 ⟨fun x hx => (i2 x hx).1, i1⟩, fun x hx => ?_⟩
          rcases List.mem_cons.1 hx with rfl | hx
          · exact ⟨by omega, h1⟩
          · have := i2 x hx; exact ⟨by omega, this.2⟩
    · rw [if_pos h1] at h; cases h
theorem cal_strict {W : Int} {hs : List Int} (h : calE W hs = 0) : hs.Pairwise (· < ·) ∧ ∀ x ∈ hs, 0 ≤ x ∧ x ≤ 3652058 := by
  by_cases hW : W < 0 ∨ 126 < W
  · rw [calE_w hW] at h; cases h
  · by_cases hl : 60 < hs.length
    · rw [calE_m hW hl] at h; cases h
    · rw [calE_h hW (by omega)] at h
      exact ⟨(hol_strict h).1, fun x hx => ((hol_strict h).2 x hx).2⟩

/-- a holiday that counts -/
def holB (W f t h : Int) : Bool := decide (f < h ∧ h ≤ t) && wrkB W h
def holC (W f t : Int) : List Int → Nat
  | [] => 0
  | h :: l => (if holB W f t h = true then 1 else 0) + holC W f t l
theorem holC_le (W f t : Int) (l : List Int) : holC W f t l ≤ l.length := by
  induction l with
  | nil => exact Nat.le_refl _
  | cons h l ih => rw [holC, List.length_cons]; split <;> omega
theorem holC_snoc (W f t x : Int) (l : List Int) : holC W f t (l ++ [x]) = holC W f t l + if holB W f t x = true then 1 else 0 := by
  induction l with
  | nil => rw [List.nil_append, holC, holC, holC]; omega
  | cons h l ih => rw [List.cons_append, holC, ih, holC]; omega
theorem holC_take (W f t : Int) {l : List Int} {k : Nat} (hk : k < l.length) : holC W f t (l.take (k + 1)) = holC W f t (l.take k) + if holB W f t (l.getD k 0) = true then 1 else 0 := by
  rw [List.take_succ_eq_append_getElem hk, holC_snoc, List.getD_eq_getElem?_getD, List.getElem?_eq_getElem hk]; rfl
theorem biz_hols (W f t : Int) {hs : List Int} (hp : hs.Pairwise (· < ·)) : cnt (wrkB W) f t = cnt (bizB W hs) f t + holC W f t hs := by
  induction hs with
  | nil => rw [holC]; exact cnt_congr fun x _ _ => by unfold bizB wrkB; simp
  | cons h l ih =>
    obtain ⟨p1, p2⟩ := List.pairwise_cons.1 hp
    have hn : h ∉ l := fun hx => by have := p1 h hx; omega
    rw [ih p2, cnt_point (β := bizB W (h :: l)) (γ := bizB W l) (h := h), holC]
    · have : (f < h ∧ h ≤ t ∧ bizB W l h = true) ↔ holB W f t h = true := by
        unfold holB bizB wrkB
        simp [hn, and_assoc]
      by_cases e : holB W f t h = true
      · rw [if_pos e, if_pos (this.2 e)]; omega
      · rw [if_neg e, if_neg (fun g => e (this.1 g))]; omega
    · intro x hx
      unfold bizB
      simp [hx]
    · unfold bizB
      simp

/-- a bit of a weekend -/
def wbit (W : Int) (i : Nat) : Nat := W.toNat / 2 ^ i % 2
theorem wbit_01 (W : Int) (i : Nat) : wbit W i ≤ 1 := by unfold wbit; omega
theorem wrk_bit {W n : Int} (h0 : 0 ≤ W) (h1 : W ≤ 126) (hn : 0 ≤ n) : (if wrkB W n = true then 1 else 0 : Nat) = 1 - wbit W (n % 7).toNat := by
  unfold wrkB
  rw [wk_bit h0 h1 hn]
  have e : W / 2 ^ (n % 7).toNat = ((W.toNat / 2 ^ (n % 7).toNat : Nat) : Int) := by
    rw [Int.natCast_ediv, Int.toNat_of_nonneg h0, Int.natCast_pow]; rfl
  rw [e]
  unfold wbit
  generalize W.toNat / 2 ^ (n % 7).toNat = q
  by_cases g : q % 2 = 1
  · rw [decide_eq_true (show ((q : Nat) : Int) % 2 = 1 by omega), g]; rfl
  · rw [decide_eq_false (show ¬ ((q : Nat) : Int) % 2 = 1 by omega)]; simp; omega
theorem ones_bits (W : Int) : ones W.toNat = ((wbit W 0 + wbit W 1 + wbit W 2 + wbit W 3 + wbit W 4 + wbit W 5 + wbit W 6 : Nat) : Int) := by
  unfold ones wbit; simp
theorem cnt_week {W a : Int} (h0 : 0 ≤ W) (h1 : W ≤ 126) (ha : 0 ≤ a) : ((cnt (wrkB W) a (a + 7) : Nat) : Int) = 7 - ones W.toNat := by
  unfold cnt
  rw [show (a + 7 - a).toNat = 7 by omega]
  simp only [cntN]
  rw [wrk_bit h0 h1 (by omega), wrk_bit h0 h1 (by omega), wrk_bit h0 h1 (by omega), wrk_bit h0 h1 (by omega), wrk_bit h0 h1 (by omega), wrk_bit h0 h1 (by omega), wrk_bit h0 h1 (by omega), ones_bits]
  have b0 := wbit_01 W 0
  have b1 := wbit_01 W 1
  have b2 := wbit_01 W 2
  have b3 := wbit_01 W 3
  have b4 := wbit_01 W 4
  have b5 := wbit_01 W 5
  have b6 := wbit_01 W 6
  have hr : a % 7 = 0 ∨ a % 7 = 1 ∨ a % 7 = 2 ∨ a % 7 = 3 ∨ a % 7 = 4 ∨ a % 7 = 5 ∨ a % 7 = 6 := by omega
  have key : ∀ j : Int, (a + j) % 7 = (a % 7 + j) % 7 := by intro j; omega
  simp only [Int.add_assoc, key]
  rcases hr with h | h | h | h | h | h | h <;> rw [h] <;> simp <;> omega
theorem cnt_weeks {W a : Int} (h0 : 0 ≤ W) (h1 : W ≤ 126) (ha : 0 ≤ a) (k : Nat) : ((cnt (wrkB W) a (a + 7 * (k : Int)) : Nat) : Int) = (k : Int) * (7 - ones W.toNat) := by
  induction k with
  | zero => rw [show a + 7 * ((0 : Nat) : Int) = a by omega, cnt_self]; simp
  | succ k ih =>
    rw [cnt_add (wrkB W) (show a ≤ a + 7 * (k : Int) by omega) (show a + 7 * (k : Int) ≤ a + 7 * ((k + 1 : Nat) : Int) by omega), Int.natCast_add, ih,
      show a + 7 * ((k + 1 : Nat) : Int) = a + 7 * (k : Int) + 7 by omega, cnt_week h0 h1 (by omega), Int.natCast_add, Int.add_mul]
    simp
/-- what Count reckons -/
theorem count_is {W f t : Int} {hs : List Int} (hE : calE W hs = 0) (f0 : 0 ≤ f) (ft : f ≤ t) :
    (t - f) / 7 * (7 - ones W.toNat) + ((cnt (wrkB W) (t - (t - f) % 7) t : Nat) : Int) - ((holC W f t hs : Nat) : Int) = ((cnt (bizB W hs) f t : Nat) : Int) := by
  obtain ⟨h0, h1, _, _⟩ := cal_right hE
  have e1 := biz_hols W f t (cal_strict hE).1
  have e2 := cnt_weeks h0 h1 f0 ((t - f) / 7).toNat
  rw [show f + 7 * ((((t - f) / 7).toNat : Nat) : Int) = t - (t - f) % 7 by omega, show ((((t - f) / 7).toNat : Nat) : Int) = (t - f) / 7 by omega] at e2
  have e3 := cnt_add (wrkB W) (show f ≤ t - (t - f) % 7 by omega) (show t - (t - f) % 7 ≤ t by omega)
  rw [← e2]
  omega

end Go.Proofs.YthaahebggboliaaGreat

-- CalI
namespace Go.Proofs.YthaahebggboliaaGreat
open Go.RowKit
set_option linter.unusedVariables false

theorem two_cells (w : World) (f t : Int) : ∀ j, j < [f, t].length → (w.alloc (.cells #[.int .i64 f, .int .i64 t] 3)).cell? ⟨w.heap.size, 0 + j, none⟩ = some (.int .i64 ([f, t].getD j 0)) := by
  intro j hj
  rcases (show j = 0 ∨ j = 1 by simp at hj; omega) with rfl | rfl <;> simp [go_sem]
theorem daysE_2 {W : Int} {hs : List Int} {f t : Int} (h : daysE W hs [f, t] = 0) : calE W hs = 0 ∧ 0 ≤ f ∧ f ≤ 3652058 ∧ 0 ≤ t ∧ t ≤ 3652058 := by
  unfold daysE at h
  by_cases hE : calE W hs = 0
  · rw [if_pos hE] at h
    refine ⟨hE, ?_⟩
    unfold dysE at h
    by_cases hd : [f, t].all dayB = true
    · have : dayB f = true ∧ dayB t = true := by simpa using hd
      have a := day_t this.1
      have b := day_t this.2
      omega
    · rw [if_neg hd] at h; cases h
  · rw [if_neg hE] at h; exact absurd h hE

/-- checkDays of two days, where a calendar was boxed -/
theorem check2 (W f t : Int) (a : Option Addr) (cap : Nat) (hs : List Int) (w : World) (hr : Reads w (.slice a hs.length cap) hs) (hf : Fits hs) :
    Calls Tryz.prog 125 #[calV W (.slice a hs.length cap), .slice (some ⟨w.heap.size + 1, 0, none⟩) 2 2] ((w.alloc (.cells #[.int .i64 W, .slice a hs.length cap] 24)).alloc (.cells #[.int .i64 f, .int .i64 t] 3)) fun e w' => e = .returned (.int .i64 (daysE W hs [f, t])) ∧ Grew w w' ∧ w'.cell? ⟨w.heap.size, 0, none⟩ = some (.int .i64 W) ∧ w'.cell? ⟨w.heap.size, 1, none⟩ = some (.slice a hs.length cap) := by
  have := checkDays_any W (.slice a hs.length cap) hs [f, t] (w.heap.size + 1) 0 2 ((w.alloc (.cells #[.int .i64 W, .slice a hs.length cap] 24)).alloc (.cells #[.int .i64 f, .int .i64 t] 3)) (hr.grew (((Grew.refl w).alloc _ _).alloc _ _)) hf (by simp) (by
    have := two_cells (w.alloc (.cells #[.int .i64 W, .slice a hs.length cap] 24)) f t
    rw [World.size_alloc] at this
    exact this)
  refine this.mono ?_
  rintro e w' ⟨rfl, g⟩
  exact ⟨rfl, gtr (((Grew.refl w).alloc _ _).alloc _ _) g, g.cell (p := ⟨w.heap.size, 0, none⟩) (v := .int .i64 W) (by simp; omega) (by simp [go_sem]), g.cell (p := ⟨w.heap.size, 1, none⟩) (v := .slice a hs.length cap) (by simp; omega) (by simp [go_sem])⟩

set_option maxRecDepth 100000 in
theorem count_bad (W f t : Int) (v : Value) (hs : List Int) (w : World) (hr : Reads w v hs) (hf : Fits hs) (hE : daysE W hs [f, t] ≠ 0) :
    Calls Tryz.prog 118 #[calV W v, .int .i64 f, .int .i64 t] w fun e w' => e = .returned (.tuple #[.int .i64 0, .int .i64 (daysE W hs [f, t])]) ∧ Kpt w w' := by
  obtain ⟨a, cap, rfl, hm, hc⟩ := id hr
  have CK := Lib.hid (check2 W f t a cap hs w hr hf)
  generalize daysE W hs [f, t] = x at CK hE ⊢
  have q : (x == 0) = false := beq_eq_false_iff_ne.2 hE
  clear hr hm hc hE
  go_enter Tryz.func118, Tryz.ntmps118
  go_wp2_with (go_at_call 125; (with_reducible refine CK.out.mono ?_); rintro e w1 ⟨rfl, g1, -, -⟩; have G1 := Lib.hid g1; clear g1)
  go_ret2
  exact ⟨rfl, G1.out.kpt⟩
set_option maxRecDepth 100000 in
theorem count_form (W f t : Int) (v : Value) (hs : List Int) (w : World) (hr : Reads w v hs) (hf : Fits hs) (hE : daysE W hs [f, t] = 0) (hlt : t < f) :
    Calls Tryz.prog 118 #[calV W v, .int .i64 f, .int .i64 t] w fun e w' => e = .returned (.tuple #[.int .i64 0, .int .i64 1]) ∧ Kpt w w' := by
  obtain ⟨a, cap, rfl, hm, hc⟩ := id hr
  have CK := Lib.hid (hE ▸ check2 W f t a cap hs w hr hf)
  clear hr hm hc hE
  go_enter Tryz.func118, Tryz.ntmps118
  go_wp2_with (go_at_call 125; (with_reducible refine CK.out.mono ?_); rintro e w1 ⟨rfl, g1, -, -⟩; have G1 := Lib.hid g1; clear g1)
  go_ret2
  exact ⟨rfl, G1.out.kpt⟩

set_option maxRecDepth 100000 in
set_option maxHeartbeats 2000000 in
theorem count_ok (W f t : Int) (v : Value) (hs : List Int) (w : World) (hr : Reads w v hs) (hf : Fits hs) (hE : daysE W hs [f, t] = 0) (hft : f ≤ t) :
    Calls Tryz.prog 118 #[calV W v, .int .i64 f, .int .i64 t] w fun e w' => e = .returned (.tuple #[.int .i64 (cnt (bizB W hs) f t : Nat), .int .i64 0]) ∧ Kpt w w' := by
  obtain ⟨hE0, f0, f1, t0, t1⟩ := daysE_2 hE
  obtain ⟨h0, h1, hl, hp⟩ := cal_right hE0
  obtain ⟨a, cap, rfl, hm, hc⟩ := id hr
  have CK := Lib.hid (hE ▸ check2 W f t a cap hs w hr hf)
  have RD := Lib.hid hr
  have CI := Lib.hid (count_is hE0 f0 hft)
  have hol := Lib.hid (cal_strict hE0).2
  obtain ⟨q, hq⟩ : ∃ q, (t - f) / 7 = q := ⟨_, rfl⟩
  obtain ⟨r, hr'⟩ : ∃ r, (t - f) % 7 = r := ⟨_, rfl⟩
  have q0 : 0 ≤ q := by omega
  have q1 : q ≤ 521722 := by omega
  have r0 : 0 ≤ r := by omega
  have r1 : r ≤ 6 := by omega
  have rt : f ≤ t - r := by omega
  have ob := ones_bd W.toNat
  obtain ⟨o0, o1⟩ := ob
  obtain ⟨p, hpp⟩ : ∃ p, q * (7 - ones W.toNat) = p := ⟨_, rfl⟩
  have p0 : 0 ≤ p := by rw [← hpp]; exact Int.mul_nonneg q0 (by omega)
  have p1 : p ≤ 521722 * 7 := by rw [← hpp]; exact Int.mul_le_mul q1 (by omega) (by omega) (by omega)
  have hw : IntKind.i64.wrap (q * (7 - ones W.toNat)) = p := by rw [hpp]; exact IntWalk.i64_in _ (by omega)
  have kb := cnt_le (wrkB W) (t - r) t
  have WD := Lib.hid (fun w => workdays_any W (t - r) t a hs.length cap h0 h1 (by omega) (by omega) t1 w)
  have OC := Lib.hid (fun w => onesCount W h0 h1 w)
  unfold Hid at CI
  rw [hq, hr', hpp] at CI
  have CI' := Lib.hid CI
  generalize ones W.toNat = o at *
  generalize cnt (wrkB W) (t - r) t = k at *
  have k1 : (k : Int) ≤ 6 := by omega
  have hu : IntKind.u64.wrap W = W := by unfold IntKind.wrap; simp [IntKind.bits, IntKind.signed]; omega
  have h7 : IntKind.i64.wrap (7 - o) = 7 - o := IntWalk.i64_in _ (by omega)
  have ht : IntKind.i64.wrap (t - r) = t - r := IntWalk.i64_in _ (by omega)
  have hpk : IntKind.i64.wrap (p + (k : Int)) = p + (k : Int) := IntWalk.i64_in _ (by omega)
  clear hr hm hc hE hE0 hf CI hp kb hpp
  go_enter Tryz.func118, Tryz.ntmps118
  go_wp2_with (go_at_call 125; (with_reducible refine CK.out.mono ?_); rintro e w1 ⟨rfl, g1, c0, c1⟩; have G1 := Lib.hid g1; clear g1)
  go_region_held3 (fun w' => w'.cell? ⟨w.heap.size, 0, none⟩ = some (.int .i64 W) ∧ w'.cell? ⟨w.heap.size, 1, none⟩ = some (.slice a hs.length cap) ∧ Hid (Grew w w')) ((refine ⟨?_, ?_, ?_⟩ <;> (first | go_keep | assumption | exact G1.out.drew)))
    (first
      | (go_at_call 139; refine (OC.out _).mono ?_; rintro e w' ⟨rfl, rfl⟩)
      | (go_at_call 140; refine (WD.out _).mono ?_; rintro e w2 ⟨rfl, g2⟩; have d0 := g2.cell (cell_in (v := .int .i64 W) (p := ⟨w.heap.size, 0, none⟩) (by assumption)) (by assumption); have d1 := g2.cell (cell_in (v := .slice a hs.length cap) (p := ⟨w.heap.size, 1, none⟩) (by assumption)) (by assumption); have G2 : Hid (Grew w w2) := gtr G1.out.drew g2; clear g2))
  clear c0 c1
  go_wp2
  go_loopw [11, 50] (fun c i wr => ∃ (j : Nat) (x : Int), j ≤ hs.length ∧ i = .int .i64 j ∧ c = .int .i64 x ∧ -(j : Int) ≤ x ∧ x ≤ 4000000 ∧ Hid (x = p + (k : Int) - ((holC W f t (hs.take j) : Nat) : Int)) ∧ wr.cell? ⟨w.heap.size, 0, none⟩ = some (.int .i64 W) ∧ wr.cell? ⟨w.heap.size, 1, none⟩ = some (.slice a hs.length cap) ∧ Hid (Grew w wr)) (fun _ i _ => hs.length - (intOf i).toNat)
  case atStart => exact ⟨0, p + k, Nat.zero_le _, rfl, rfl, by omega, by omega, by unfold Hid; rw [List.take_zero, holC]; omega, d0, d1, G2⟩
  case round =>
    clear d0 d1
    obtain ⟨j, x, hj, rfl, rfl, x0, x1, HX, d0, d1, HG⟩ := hrel
    by_cases hlt : j < hs.length
    · have hh := hol.out (hs.getD j 0) (by rw [List.getD_eq_getElem?_getD, List.getElem?_eq_getElem hlt]; simp)
      have ht' := holC_take W f t hlt
      have rd := RD.out.grew HG.out
      obtain ⟨a', cap', e, hm, hc⟩ := rd
      simp only [Value.slice.injEq, true_and] at e
      obtain ⟨rfl, rfl⟩ := e
      obtain ⟨b, off, rfl, hx⟩ := hc j hlt
      clear hc hm
      generalize hs.getD j 0 = h at hh ht' hx
      obtain ⟨hh0, hh1⟩ := hh
      unfold holB wrkB at ht'
      by_cases c1 : f < h
      · by_cases c2 : h ≤ t
        · have WK := Lib.hid (isWeekend_any W h (some ⟨b, off, none⟩) hs.length cap h0 h1 hh0 hh1 wr)
          rw [decide_eq_true (show f < h ∧ h ≤ t from ⟨c1, c2⟩)] at ht'
          cases hb : wkB W h with
          | true =>
            rw [hb] at WK ht'
            have HS : Hid (x = p + (k : Int) - ((holC W f t (hs.take (j + 1)) : Nat) : Int)) := by unfold Hid; rw [ht', HX.out]; simp
            clear ht' hb
            go_wp2_with (go_at_call 141; (with_reducible refine WK.out.mono ?_); rintro e w3 ⟨rfl, g3⟩; have e0 := g3.cell (cell_in d0) d0; have e1 := g3.cell (cell_in d1) d1; have G3 := Lib.hid (gtr HG.out g3); clear g3)
            go_roundw
            case rel => exact ⟨j + 1, x, by omega, by go_num, rfl, by omega, by omega, HS, e0, e1, G3⟩
            case measure => simp [intOf]; omega
          | false =>
            rw [hb] at WK ht'
            have HS : Hid (x - 1 = p + (k : Int) - ((holC W f t (hs.take (j + 1)) : Nat) : Int)) := by unfold Hid; rw [ht', HX.out]; simp; omega
            clear ht' hb
            go_wp2_with (go_at_call 141; (with_reducible refine WK.out.mono ?_); rintro e w3 ⟨rfl, g3⟩; have e0 := g3.cell (cell_in d0) d0; have e1 := g3.cell (cell_in d1) d1; have G3 := Lib.hid (gtr HG.out g3); clear g3)
            go_roundw
            case rel => exact ⟨j + 1, x - 1, by omega, by go_num, rfl, by omega, by omega, HS, e0, e1, G3⟩
            case measure => simp [intOf]; omega
        · rw [decide_eq_false (fun g => c2 g.2)] at ht'
          have HS : Hid (x = p + (k : Int) - ((holC W f t (hs.take (j + 1)) : Nat) : Int)) := by unfold Hid; rw [ht', HX.out]; simp
          have q2 : decide (h ≤ t) = false := decide_eq_false c2
          clear ht'
          go_wp2
          go_roundw
          case rel => exact ⟨j + 1, x, by omega, by go_num, rfl, by omega, by omega, HS, d0, d1, HG⟩
          case measure => simp [intOf]; omega
      · rw [decide_eq_false (fun g => c1 g.1)] at ht'
        have HS : Hid (x = p + (k : Int) - ((holC W f t (hs.take (j + 1)) : Nat) : Int)) := by unfold Hid; rw [ht', HX.out]; simp
        have q2 : decide (f < h) = false := decide_eq_false c1
        clear ht'
        go_wp2
        go_roundw
        case rel => exact ⟨j + 1, x, by omega, by go_num, rfl, by omega, by omega, HS, d0, d1, HG⟩
        case measure => simp [intOf]; omega
    · have hx := HX.out
      rw [List.take_of_length_le (by omega), CI'.out] at hx
      have HY := Lib.hid hx
      clear hx
      go_wp2
      go_ret2
      exact ⟨ret_tup2 HY.out rfl, HG.out.kpt⟩

end Go.Proofs.YthaahebggboliaaGreat

-- CalJ
namespace Go.Proofs.YthaahebggboliaaGreat
open Go.RowKit
set_option linter.unusedVariables false

theorem up_at {W : Int} {hs : List Int} {n k : Int} {m : Nat} (h0 : -1 ≤ n) (h1 : n < k) (h2 : k ≤ 3652058) (hm : 1 ≤ m) (hb : bizB W hs k = true) (hc : cnt (bizB W hs) n k = m) : upR W hs (n + 1) m = k ∧ upE W hs (n + 1) m = 0 := by
  rcases up_cases W hs h0 (by omega) hm with ⟨e1, e2, e3, e4, e5⟩ | ⟨e1, e2, e3⟩
  · exact ⟨cnt_inj e2 h1 e4 hb (e5.trans hc.symm), e1⟩
  · have := cnt_mono (bizB W hs) (Int.le_of_lt h1) h2; omega
theorem dn_at {W : Int} {hs : List Int} {n k : Int} {m : Nat} (h0 : 0 ≤ k) (h1 : k ≤ n) (h2 : n ≤ 3652058) (hm : 1 ≤ m) (hb : bizB W hs k = true) (hc : cnt (bizB W hs) (k - 1) n = m) : dnR W hs n m = k ∧ dnE W hs n m = 0 := by
  rcases dn_cases W hs (show -1 ≤ n by omega) h2 hm with ⟨e1, e2, e3, e4, e5⟩ | ⟨e1, e2, e3⟩
  · exact ⟨cnt_inj_dn e3 h1 e4 hb (e5.trans hc.symm), e1⟩
  · have := cnt_add (bizB W hs) (show -1 ≤ k - 1 by omega) (show k - 1 ≤ n by omega); omega
theorem next_at {W : Int} {hs : List Int} {n k : Int} (h0 : 0 ≤ n) (h1 : n ≤ k) (h2 : k ≤ 3652058) (hb : bizB W hs k = true) (hc : cnt (bizB W hs) (n - 1) k = 1) : upR W hs n 1 = k ∧ upE W hs n 1 = 0 := by
  have := up_at (W := W) (hs := hs) (n := n - 1) (k := k) (m := 1) (by omega) (by omega) h2 (by omega) hb hc
  rw [show n - 1 + 1 = n by omega] at this
  exact this

/-- Fit, where a date is known -/
def FitIs (W : Int) (hs : List Int) (n : Int) (w : World) (e : Ending) (w' : World) : Prop :=
  (∃ k, e = .returned (.tuple #[.int .i64 k, .int .i64 0]) ∧ Kpt w w' ∧ upR W hs n 1 = k ∧ upE W hs n 1 = 0 ∧ (∃ y m d D, vldB y m d = true ∧ num y m d = n ∧ vldB y m D = true ∧ num y m D = k)) ∨
  (e = .returned (.tuple #[.int .i64 (dnR W hs (n - 1) 1), .int .i64 (dnE W hs (n - 1) 1)]) ∧ Kpt w w' ∧
    ((∃ k y m d Y M D, upR W hs n 1 = k ∧ upE W hs n 1 = 0 ∧ vldB y m d = true ∧ num y m d = n ∧ vldB Y M D = true ∧ num Y M D = k ∧ ¬ (y = Y ∧ m = M)) ∨ (upE W hs n 1 = 8 ∧ upR W hs n 1 = 0 ∧ cnt (bizB W hs) (n - 1) 3652058 = 0)))
/-- the week of the laws -/
def wkH : List Int := [739936]
def WeekIs (w : World) (e : Ending) (w' : World) : Prop := ∃ v, e = .returned (calV 96 v) ∧ Reads w' v wkH ∧ Kpt w w'
theorem week_any (w : World) : Calls Tryz.prog 69 #[] w (WeekIs w) := by
  go_enter Tryz.func69, Tryz.ntmps69
  go_wp2
  refine bodyPost_ret (v := calV 96 (.slice (some ⟨w.heap.size + 1, 0, none⟩) 1 1)) (by simp [results, Tryz.results69, go_sem]) rfl ⟨_, rfl, ?_, ?_⟩
  · refine reads_mk (zs := wkH) rfl (by unfold maxLen; omega) fun j hj => ?_
    obtain rfl : j = 0 := by simpa [wkH] using hj
    simp [go_sem, wkH]
  · exact ((Kpt.refl _).alloc _).alloc _

theorem wk_fits : Fits wkH := fun j hj => by
  obtain rfl : j = 0 := by simpa [wkH] using hj
  simp [wkH]
theorem wb_is (v : Value) (w : World) (hr : Reads w v wkH) : Calls Tryz.prog 170 #[calV 96 v, .int .i64 739936] w fun e w' => e = .returned (.tuple #[.bool false, .int .i64 0]) ∧ Kpt w w' := by
  have := is_ok 96 739936 v wkH w hr wk_fits (by decide)
  rw [show bizB 96 wkH 739936 = false by decide +kernel] at this
  exact this.mono fun e w' h => ⟨h.1, h.2.kpt⟩
theorem wb_step1 (v : Value) (w : World) (hr : Reads w v wkH) : Calls Tryz.prog 89 #[calV 96 v, .int .i64 739935, .int .i64 4] w fun e w' => e = .returned (.tuple #[.int .i64 739942, .int .i64 0]) ∧ Kpt w w' := by
  have := step_up 96 739935 4 v wkH (by decide) (by decide) w hr wk_fits (by decide)
  obtain ⟨a, b⟩ := up_at (W := 96) (hs := wkH) (n := 739935) (k := 739942) (m := (4 : Int).toNat) (by decide) (by decide) (by decide) (by decide) (by decide +kernel) (by decide +kernel)
  rw [a, b] at this
  exact this
theorem wb_step2 (v : Value) (w : World) (hr : Reads w v wkH) : Calls Tryz.prog 89 #[calV 96 v, .int .i64 739937, .int .i64 (-2)] w fun e w' => e = .returned (.tuple #[.int .i64 739932, .int .i64 0]) ∧ Kpt w w' := by
  have := step_dn 96 739937 (-2) v wkH (by decide) (by decide) w hr wk_fits (by decide)
  obtain ⟨a, b⟩ := dn_at (W := 96) (hs := wkH) (n := 739937 - 1) (k := 739932) (m := (- -2 : Int).toNat) (by decide) (by decide) (by decide) (by decide) (by decide +kernel) (by decide +kernel)
  rw [a, b] at this
  exact this
theorem wb_count (v : Value) (w : World) (hr : Reads w v wkH) : Calls Tryz.prog 118 #[calV 96 v, .int .i64 739935, .int .i64 739942] w fun e w' => e = .returned (.tuple #[.int .i64 4, .int .i64 0]) ∧ Kpt w w' := by
  have := count_ok 96 739935 739942 v wkH w hr wk_fits (by decide) (by decide)
  rw [show cnt (bizB 96 wkH) 739935 739942 = 4 by decide +kernel] at this
  exact this
theorem wb_check1 (w : World) : Calls Tryz.prog 50 #[calV 127 (.slice none 0 0)] w fun e w' => e = .returned (.int .i64 3) ∧ Kpt w w' :=
  (calCheck_w 127 none 0 0 (.inr (by decide)) w).mono fun e w' h => ⟨h.1, h.2.kpt⟩
theorem wb_check2 (w : World) (g : Nat) (hc : ∀ j, j < 2 → w.cell? ⟨g, 0 + j, none⟩ = some (.int .i64 ([2, 1].getD j 0))) : Calls Tryz.prog 50 #[calV 0 (.slice (some ⟨g, 0, none⟩) 2 2)] w fun e w' => e = .returned (.int .i64 4) ∧ Kpt w w' := by
  have := calCheck_some 0 g 0 2 [2, 1] (by decide) (by decide) (by decide) w hc (by intro j hj; rcases (show j = 0 ∨ j = 1 by simp at hj; omega) with rfl | rfl <;> simp)
  exact this.mono fun e w' h => ⟨h.1, h.2.kpt⟩

end Go.Proofs.YthaahebggboliaaGreat

-- CalK
namespace Go.Proofs.YthaahebggboliaaGreat
open Go.RowKit
set_option linter.unusedVariables false

theorem days_mk1 {W : Int} {hs : List Int} {n : Int} (h : calE W hs = 0) (h0 : 0 ≤ n) (h1 : n ≤ 3652058) : daysE W hs [n] = 0 := by
  unfold daysE dysE
  rw [if_pos h, if_pos]
  simp [dayB, h0, h1]
theorem days_mk2 {W : Int} {hs : List Int} {f t : Int} (h : calE W hs = 0) (h0 : 0 ≤ f) (h1 : f ≤ 3652058) (h2 : 0 ≤ t) (h3 : t ≤ 3652058) : daysE W hs [f, t] = 0 := by
  unfold daysE dysE
  rw [if_pos h, if_pos]
  simp [dayB, h0, h1, h2, h3]
theorem daysE_same {W : Int} {hs : List Int} {a b : List Int} (h : calE W hs ≠ 0) : daysE W hs a = calE W hs := by unfold daysE; rw [if_neg h]

def isR (W : Int) (hs : List Int) (n : Int) : Bool := if daysE W hs [n] = 0 then bizB W hs n else false
def nxtR (W : Int) (hs : List Int) (n : Int) : Int := if daysE W hs [n] = 0 then upR W hs n 1 else 0
def nxtE (W : Int) (hs : List Int) (n : Int) : Int := if daysE W hs [n] = 0 then upE W hs n 1 else daysE W hs [n]
def steR (W : Int) (hs : List Int) (n many : Int) : Int := if daysE W hs [n] = 0 then stpR W hs n many else 0
def steE (W : Int) (hs : List Int) (n many : Int) : Int := if daysE W hs [n] = 0 then stpE W hs n many else daysE W hs [n]
def couR (W : Int) (hs : List Int) (f t : Int) : Int := if daysE W hs [f, t] = 0 then (if t < f then 0 else (cnt (bizB W hs) f t : Nat)) else 0
def couE (W : Int) (hs : List Int) (f t : Int) : Int := if daysE W hs [f, t] = 0 then (if t < f then 1 else 0) else daysE W hs [f, t]

theorem is_any (W n : Int) (v : Value) (hs : List Int) (w : World) (hr : Reads w v hs) (hf : Fits hs) :
    Calls Tryz.prog 170 #[calV W v, .int .i64 n] w fun e w' => e = .returned (.tuple #[.bool (isR W hs n), .int .i64 (daysE W hs [n])]) ∧ Kpt w w' := by
  unfold isR
  by_cases h : daysE W hs [n] = 0
  · rw [if_pos h, h]; exact (is_ok W n v hs w hr hf h).mono fun e w' h => ⟨h.1, h.2.kpt⟩
  · rw [if_neg h]; exact (is_bad W n v hs w hr hf h).mono fun e w' h => ⟨h.1, h.2.kpt⟩
theorem step_any (W n many : Int) (v : Value) (hs : List Int) (w : World) (hr : Reads w v hs) (hf : Fits hs) :
    Calls Tryz.prog 89 #[calV W v, .int .i64 n, .int .i64 many] w fun e w' => e = .returned (.tuple #[.int .i64 (steR W hs n many), .int .i64 (steE W hs n many)]) ∧ Kpt w w' := by
  unfold steR steE
  by_cases h : daysE W hs [n] = 0
  · rw [if_pos h, if_pos h]; exact step_ok W n many v hs w hr hf h
  · rw [if_neg h, if_neg h]; exact step_bad W n many v hs w hr hf h
theorem count_any (W f t : Int) (v : Value) (hs : List Int) (w : World) (hr : Reads w v hs) (hf : Fits hs) :
    Calls Tryz.prog 118 #[calV W v, .int .i64 f, .int .i64 t] w fun e w' => e = .returned (.tuple #[.int .i64 (couR W hs f t), .int .i64 (couE W hs f t)]) ∧ Kpt w w' := by
  unfold couR couE
  by_cases h : daysE W hs [f, t] = 0
  · rw [if_pos h, if_pos h]
    by_cases g : t < f
    · rw [if_pos g, if_pos g]; exact count_form W f t v hs w hr hf h g
    · rw [if_neg g, if_neg g]; exact count_ok W f t v hs w hr hf h (by omega)
  · rw [if_neg h, if_neg h]; exact count_bad W f t v hs w hr hf h

theorem cou_ok {W : Int} {hs : List Int} {f t : Int} (h : calE W hs = 0) (h0 : 0 ≤ f) (h1 : f ≤ t) (h2 : t ≤ 3652058) : couR W hs f t = (cnt (bizB W hs) f t : Nat) ∧ couE W hs f t = 0 := by
  unfold couR couE
  rw [days_mk2 h h0 (by omega) (by omega) h2, if_pos rfl, if_pos rfl, if_neg (by omega), if_neg (by omega)]
  exact ⟨rfl, rfl⟩
theorem is_ok' {W : Int} {hs : List Int} {n : Int} (h : calE W hs = 0) (h0 : 0 ≤ n) (h1 : n ≤ 3652058) : isR W hs n = bizB W hs n ∧ daysE W hs [n] = 0 := by
  unfold isR
  rw [days_mk1 h h0 h1, if_pos rfl]
  exact ⟨rfl, rfl⟩

/-- the next one: what is known of it -/
theorem nxt_cases (W : Int) (hs : List Int) (n : Int) :
    (nxtE W hs n = 0 ∧ calE W hs = 0 ∧ 0 ≤ n ∧ n ≤ nxtR W hs n ∧ nxtR W hs n ≤ 3652058 ∧ bizB W hs (nxtR W hs n) = true ∧ cnt (bizB W hs) (n - 1) (nxtR W hs n) = 1) ∨ (nxtE W hs n ≠ 0 ∧ nxtR W hs n = 0) := by
  unfold nxtR nxtE
  by_cases h : daysE W hs [n] = 0
  · rw [if_pos h, if_pos h]
    obtain ⟨hE, n0, n1⟩ := daysE_1 h
    have uc := up_cases W hs (n := n - 1) (m := 1) (by omega) (by omega) (by omega)
    rw [show n - 1 + 1 = n by omega] at uc
    rcases uc with ⟨e1, e2, e3, e4, e5⟩ | ⟨e1, e2, e3⟩
    · exact .inl ⟨e1, hE, n0, by omega, e3, e4, e5⟩
    · exact .inr ⟨by rw [e1]; decide, e2⟩
  · rw [if_neg h, if_neg h]; exact .inr ⟨h, rfl⟩
theorem nxt_at {W : Int} {hs : List Int} {n k : Int} (h : calE W hs = 0) (h0 : 0 ≤ n) (h1 : n ≤ k) (h2 : k ≤ 3652058) (hb : bizB W hs k = true) (hc : cnt (bizB W hs) (n - 1) k = 1) : nxtR W hs n = k ∧ nxtE W hs n = 0 := by
  unfold nxtR nxtE
  rw [days_mk1 h h0 (by omega), if_pos rfl, if_pos rfl]
  exact next_at h0 h1 h2 hb hc
/-- a step: what is known of it -/
theorem ste_cases (W : Int) (hs : List Int) (n many : Int) :
    (steE W hs n many = 0 ∧ calE W hs = 0 ∧ 0 ≤ n ∧ n ≤ 3652058 ∧ -500 ≤ many ∧ many ≤ 500 ∧ 0 ≤ steR W hs n many ∧ steR W hs n many ≤ 3652058 ∧
      ((many = 0 ∧ steR W hs n many = n) ∨
       (0 < many ∧ n < steR W hs n many ∧ bizB W hs (steR W hs n many) = true ∧ cnt (bizB W hs) n (steR W hs n many) = many.toNat) ∨
       (many < 0 ∧ steR W hs n many < n ∧ bizB W hs (steR W hs n many) = true ∧ cnt (bizB W hs) (steR W hs n many - 1) (n - 1) = (-many).toNat))) ∨
    (steE W hs n many ≠ 0 ∧ steR W hs n many = 0) := by
  unfold steR steE
  by_cases h : daysE W hs [n] = 0
  · rw [if_pos h, if_pos h]
    obtain ⟨hE, n0, n1⟩ := daysE_1 h
    unfold stpR stpE
    by_cases a : many < -500 ∨ 500 < many
    · rw [if_pos a, if_pos a]; exact .inr ⟨by decide, rfl⟩
    · rw [if_neg a, if_neg a]
      by_cases b : many = 0
      · rw [if_pos b, if_pos b]; exact .inl ⟨rfl, hE, n0, n1, by omega, by omega, n0, n1, .inl ⟨b, rfl⟩⟩
      · rw [if_neg b, if_neg b]
        by_cases c : 0 < many
        · rw [if_pos c, if_pos c]
          rcases up_cases W hs (n := n) (m := many.toNat) (by omega) n1 (by omega) with ⟨e1, e2, e3, e4, e5⟩ | ⟨e1, e2, e3⟩
          · exact .inl ⟨e1, hE, n0, n1, by omega, by omega, by omega, e3, .inr (.inl ⟨c, e2, e4, e5⟩)⟩
          · exact .inr ⟨by rw [e1]; decide, e2⟩
        · rw [if_neg c, if_neg c]
          rcases dn_cases W hs (n := n - 1) (m := (-many).toNat) (by omega) (by omega) (by omega) with ⟨e1, e2, e3, e4, e5⟩ | ⟨e1, e2, e3⟩
          · exact .inl ⟨e1, hE, n0, n1, by omega, by omega, e2, by omega, .inr (.inr ⟨by omega, by omega, e4, e5⟩)⟩
          · exact .inr ⟨by rw [e1]; decide, e2⟩
  · rw [if_neg h, if_neg h]; exact .inr ⟨h, rfl⟩
theorem ste_up {W : Int} {hs : List Int} {n k many : Int} (h : calE W hs = 0) (h0 : 0 ≤ n) (h1 : n < k) (h2 : k ≤ 3652058) (m0 : 0 < many) (m1 : many ≤ 500) (hb : bizB W hs k = true) (hc : cnt (bizB W hs) n k = many.toNat) : steR W hs n many = k ∧ steE W hs n many = 0 := by
  unfold steR steE stpR stpE
  rw [days_mk1 h h0 (by omega)]
  simp only [if_true, if_neg (show ¬ (many < -500 ∨ 500 < many) by omega), if_neg (show ¬ many = 0 by omega), if_pos m0]
  exact up_at (by omega) h1 h2 (by omega) hb hc
theorem ste_dn {W : Int} {hs : List Int} {n k many : Int} (h : calE W hs = 0) (h0 : 0 ≤ k) (h1 : k < n) (h2 : n ≤ 3652058) (m0 : many < 0) (m1 : -500 ≤ many) (hb : bizB W hs k = true) (hc : cnt (bizB W hs) (k - 1) (n - 1) = (-many).toNat) : steR W hs n many = k ∧ steE W hs n many = 0 := by
  unfold steR steE stpR stpE
  rw [days_mk1 h (by omega) h2]
  simp only [if_true, if_neg (show ¬ (many < -500 ∨ 500 < many) by omega), if_neg (show ¬ many = 0 by omega), if_neg (show ¬ 0 < many by omega)]
  exact dn_at h0 (by omega) (by omega) (by omega) hb hc
theorem ste_zero {W : Int} {hs : List Int} {n : Int} (h : calE W hs = 0) (h0 : 0 ≤ n) (h2 : n ≤ 3652058) : steR W hs n 0 = n ∧ steE W hs n 0 = 0 := by
  unfold steR steE stpR stpE
  rw [days_mk1 h h0 h2]
  exact ⟨rfl, rfl⟩

theorem fits_of {zs : List Int} (h : ∀ n ∈ zs, (Lit.int .i64 n).wf = true) : Fits zs := fun j hj => by
  rw [List.getD_eq_getElem?_getD, List.getElem?_eq_getElem hj]
  exact wf_i64 (h _ (List.getElem_mem hj))

end Go.Proofs.YthaahebggboliaaGreat
