/-
  Merged: CalE, CalM, CalF.
-/
import Derived.Test.YtgccipmeiceonaaMp3
-- CalE
namespace Go.Proofs.Ytgccipmeiceonaa
open Go.RowKit
set_option linter.unusedVariables false

theorem far_up {n : Int} (h0 : 0 ≤ n) (h1 : n ≤ 3652059) : Far n 1 (3652059 - n).toNat :=
  ⟨.inl rfl, fun k hk => by omega, .inr (by omega), by omega⟩
theorem far_dn {n : Int} (h0 : -1 ≤ n) (h1 : n ≤ 3652058) : Far n (-1) (n + 1).toNat :=
  ⟨.inr rfl, fun k hk => by omega, .inl (by omega), by omega⟩
/-- the many-th business day from a day on; up to a day -/
def upR (W : Int) (hs : List Int) (n : Int) (m : Nat) : Int := nthR (vis (bizB W hs) n 1 (3652059 - n).toNat) m
def upE (W : Int) (hs : List Int) (n : Int) (m : Nat) : Int := nthE (vis (bizB W hs) n 1 (3652059 - n).toNat) m
def dnR (W : Int) (hs : List Int) (n : Int) (m : Nat) : Int := nthR (vis (bizB W hs) n (-1) (n + 1).toNat) m
def dnE (W : Int) (hs : List Int) (n : Int) (m : Nat) : Int := nthE (vis (bizB W hs) n (-1) (n + 1).toNat) m

/-- 'the days from start on, in a direction', as business hands them back -/
def BizF (W : Int) (v : Value) (hs : List Int) (start dir : Int) (w : World) (e : Ending) (w' : World) : Prop :=
  ∃ b4 b5 b3, e = .returned (.func (.func 173) #[] #[.pointer (some ⟨b4, 0, none⟩), .pointer (some ⟨b5, 0, none⟩), .pointer (some ⟨b3, 0, none⟩)]) ∧ Held w' W v hs start dir b4 b5 b3 ∧ Grew w w'
theorem business_is (W start dir : Int) (v : Value) (hs : List Int) (w : World) (hr : Reads w v hs) :
    Calls Try.prog 172 #[calV W v, .int .i64 start, .int .i64 dir] w (BizF W v hs start dir w) :=
  (business_any W start dir v hs w hr).mono fun e w' h => ⟨_, _, _, h.1, h.2⟩

theorem nth_up (W : Int) (a : Option Addr) (cap : Nat) (hs : List Int) (n : Int) (h0 : 0 ≤ n) (h1 : n ≤ 3652059) (b4 b5 b3 : Nat) (many : Int) (m0 : 1 ≤ many) (m1 : many ≤ 1000) (hE : calE W hs = 0) (w : World) (hH : Held w W (.slice a hs.length cap) hs n 1 b4 b5 b3) :
    Calls Try.prog 171 #[.func (.func 173) #[] #[.pointer (some ⟨b4, 0, none⟩), .pointer (some ⟨b5, 0, none⟩), .pointer (some ⟨b3, 0, none⟩)], .int .i64 many] w fun e w' => e = .returned (.tuple #[.int .i64 (upR W hs n many.toNat), .int .i64 (upE W hs n many.toNat)]) ∧ Kpt w w' := by
  have := nth_biz W a cap hs n 1 _ b4 b5 b3 many.toNat (by omega) (by omega) hE (far_up h0 h1) w hH
  rw [show ((many.toNat : Nat) : Int) = many by omega] at this
  exact this
theorem nth_dn (W : Int) (a : Option Addr) (cap : Nat) (hs : List Int) (n : Int) (h0 : -1 ≤ n) (h1 : n ≤ 3652058) (b4 b5 b3 : Nat) (many : Int) (m0 : 1 ≤ many) (m1 : many ≤ 1000) (hE : calE W hs = 0) (w : World) (hH : Held w W (.slice a hs.length cap) hs n (-1) b4 b5 b3) :
    Calls Try.prog 171 #[.func (.func 173) #[] #[.pointer (some ⟨b4, 0, none⟩), .pointer (some ⟨b5, 0, none⟩), .pointer (some ⟨b3, 0, none⟩)], .int .i64 many] w fun e w' => e = .returned (.tuple #[.int .i64 (dnR W hs n many.toNat), .int .i64 (dnE W hs n many.toNat)]) ∧ Kpt w w' := by
  have := nth_biz W a cap hs n (-1) _ b4 b5 b3 many.toNat (by omega) (by omega) hE (far_dn h0 h1) w hH
  rw [show ((many.toNat : Nat) : Int) = many by omega] at this
  exact this

/-- checkDays of one day, where a calendar was boxed -/
theorem check1 (W n : Int) (a : Option Addr) (cap : Nat) (hs : List Int) (w : World) (hr : Reads w (.slice a hs.length cap) hs) (hf : Fits hs) :
    Calls Try.prog 131 #[calV W (.slice a hs.length cap), .slice (some ⟨w.heap.size + 1, 0, none⟩) 1 1] ((w.alloc (.cells #[.int .i64 W, .slice a hs.length cap] 24)).alloc (.cells #[.int .i64 n] 3)) fun e w' => e = .returned (.int .i64 (daysE W hs [n])) ∧ Grew w w' ∧ w'.cell? ⟨w.heap.size, 0, none⟩ = some (.int .i64 W) ∧ w'.cell? ⟨w.heap.size, 1, none⟩ = some (.slice a hs.length cap) := by
  have := checkDays_any W (.slice a hs.length cap) hs [n] (w.heap.size + 1) 0 1 ((w.alloc (.cells #[.int .i64 W, .slice a hs.length cap] 24)).alloc (.cells #[.int .i64 n] 3)) (hr.grew (((Grew.refl w).alloc _ _).alloc _ _)) hf (by simp) (by
    have := one_cell (w.alloc (.cells #[.int .i64 W, .slice a hs.length cap] 24)) n
    rw [World.size_alloc] at this
    exact this)
  refine this.mono ?_
  rintro e w' ⟨rfl, g⟩
  exact ⟨rfl, gtr (((Grew.refl w).alloc _ _).alloc _ _) g, g.cell (p := ⟨w.heap.size, 0, none⟩) (v := .int .i64 W) (by simp; omega) (by simp [go_sem]), g.cell (p := ⟨w.heap.size, 1, none⟩) (v := .slice a hs.length cap) (by simp; omega) (by simp [go_sem])⟩

end Go.Proofs.Ytgccipmeiceonaa

-- CalM
namespace Go.Proofs.Ytgccipmeiceonaa
open Go.RowKit
set_option linter.unusedVariables false

/-- how many of the k days behind a -/
def cntN (β : Int → Bool) (a : Int) : Nat → Nat
  | 0 => 0
  | k + 1 => cntN β a k + if β (a + (k : Int) + 1) = true then 1 else 0
/-- how many behind a, up to b -/
def cnt (β : Int → Bool) (a b : Int) : Nat := cntN β a (b - a).toNat
theorem cnt_self (β : Int → Bool) (a : Int) : cnt β a a = 0 := by unfold cnt; rw [Int.sub_self]; rfl
theorem cnt_succ (β : Int → Bool) {a b : Int} (h : a ≤ b) : cnt β a (b + 1) = cnt β a b + if β (b + 1) = true then 1 else 0 := by
  unfold cnt
  rw [show (b + 1 - a).toNat = (b - a).toNat + 1 by omega, cntN, show a + (((b - a).toNat : Nat) : Int) + 1 = b + 1 by omega]
theorem cnt_add (β : Int → Bool) {a b c : Int} (h : a ≤ b) (k : b ≤ c) : cnt β a c = cnt β a b + cnt β b c := by
  obtain ⟨j, rfl⟩ : ∃ j : Nat, c = b + j := ⟨(c - b).toNat, by omega⟩
  clear k
  induction j with
  | zero => rw [show b + ((0 : Nat) : Int) = b by omega, cnt_self]; rfl
  | succ j ih =>
    rw [show b + ((j + 1 : Nat) : Int) = b + (j : Int) + 1 by omega, cnt_succ β (show a ≤ b + (j : Int) by omega), cnt_succ β (show b ≤ b + (j : Int) by omega), ih]
    omega
theorem cnt_pre (β : Int → Bool) {a b : Int} (h : a ≤ b) : cnt β (a - 1) b = (if β a = true then 1 else 0) + cnt β a b := by
  rw [cnt_add β (show a - 1 ≤ a by omega) h]
  have := cnt_succ β (Int.le_refl (a - 1))
  rw [show a - 1 + 1 = a by omega, cnt_self] at this
  rw [this]; omega
theorem cnt_le (β : Int → Bool) (a b : Int) : cnt β a b ≤ (b - a).toNat := by
  unfold cnt
  generalize (b - a).toNat = k
  induction k with
  | zero => exact Nat.le_refl _
  | succ k ih => rw [cntN]; split <;> omega
theorem cnt_mono (β : Int → Bool) {a b c : Int} (h : a ≤ b) (k : b ≤ c) : cnt β a b ≤ cnt β a c := by rw [cnt_add β h k]; omega
/-- one at the end -/
theorem cnt_end (β : Int → Bool) {a b : Int} (h : a < b) (hb : β b = true) : cnt β a b = cnt β a (b - 1) + 1 := by
  have := cnt_succ β (show a ≤ b - 1 by omega)
  rw [show b - 1 + 1 = b by omega, if_pos hb] at this
  exact this
theorem cnt_at (β : Int → Bool) {a b : Int} (h : a ≤ b) (hb : β a = true) : cnt β (a - 1) b = cnt β a b + 1 := by
  rw [cnt_pre β h, if_pos hb]; omega
theorem cnt_pos {β : Int → Bool} {a b x : Int} (h : a < x) (k : x ≤ b) (hx : β x = true) : 1 ≤ cnt β a b := by
  rw [cnt_add β (Int.le_of_lt h) k, cnt_end β h hx]; omega
theorem cnt_none {β : Int → Bool} {a b : Int} (h0 : a ≤ b) (h : cnt β a b = 0) {x : Int} (h1 : a < x) (h2 : x ≤ b) : β x = false := by
  cases e : β x with
  | false => rfl
  | true => have := cnt_pos h1 h2 e; omega
/-- of two of them with as many ahead -/
theorem cnt_inj {β : Int → Bool} {n k l : Int} (hk : n < k) (hl : n < l) (bk : β k = true) (bl : β l = true) (h : cnt β n k = cnt β n l) : k = l := by
  rcases Int.lt_trichotomy k l with g | g | g
  · have := cnt_add β (Int.le_of_lt hk) (Int.le_of_lt g)
    have := cnt_pos g (Int.le_refl _) bl
    omega
  · exact g
  · have := cnt_add β (Int.le_of_lt hl) (Int.le_of_lt g)
    have := cnt_pos g (Int.le_refl _) bk
    omega
theorem cnt_inj_dn {β : Int → Bool} {n k l : Int} (hk : k ≤ n) (hl : l ≤ n) (bk : β k = true) (bl : β l = true) (h : cnt β (k - 1) n = cnt β (l - 1) n) : k = l := by
  rcases Int.lt_trichotomy k l with g | g | g
  · have := cnt_add β (show k - 1 ≤ l - 1 by omega) (show l - 1 ≤ n by omega)
    have := cnt_pos (show k - 1 < k by omega) (show k ≤ l - 1 by omega) bk
    omega
  · exact g
  · have := cnt_add β (show l - 1 ≤ k - 1 by omega) (show k - 1 ≤ n by omega)
    have := cnt_pos (show l - 1 < l by omega) (show l ≤ k - 1 by omega) bl
    omega
theorem cnt_congr {β γ : Int → Bool} {a b : Int} (h : ∀ x, a < x → x ≤ b → β x = γ x) : cnt β a b = cnt γ a b := by
  unfold cnt
  have : ∀ k : Nat, (k : Int) ≤ b - a → cntN β a k = cntN γ a k := by
    intro k
    induction k with
    | zero => intro _; rfl
    | succ k ih => intro hk; rw [cntN, cntN, ih (by omega), h _ (by omega) (by omega)]
  by_cases e : a ≤ b
  · exact this _ (by omega)
  · rw [show (b - a).toNat = 0 by omega]; rfl

theorem vis_up (β : Int → Bool) (a : Int) (k : Nat) : (vis β (a + 1) 1 k).length = cnt β a (a + k) := by
  induction k with
  | zero => rw [show a + ((0 : Nat) : Int) = a by omega, cnt_self]; rfl
  | succ k ih =>
    rw [show a + ((k + 1 : Nat) : Int) = a + (k : Int) + 1 by omega, cnt_succ β (by omega), ← ih]
    cases hb : β (a + 1 + 1 * (k : Int)) with
    | true => rw [vis_t hb, show a + (k : Int) + 1 = a + 1 + 1 * (k : Int) by omega, if_pos hb]; simp
    | false => rw [vis_f hb, show a + (k : Int) + 1 = a + 1 + 1 * (k : Int) by omega, if_neg (by rw [hb]; simp)]; simp
theorem vis_dn (β : Int → Bool) (b : Int) (k : Nat) : (vis β b (-1) k).length = cnt β (b - k) b := by
  induction k with
  | zero => rw [show b - ((0 : Nat) : Int) = b by omega, cnt_self]; rfl
  | succ k ih =>
    rw [show b - ((k + 1 : Nat) : Int) = b - (k : Int) - 1 by omega, cnt_pre β (by omega), ← ih]
    cases hb : β (b + -1 * (k : Int)) with
    | true => rw [vis_t hb, show b - (k : Int) = b + -1 * (k : Int) by omega, if_pos hb]; simp; omega
    | false => rw [vis_f hb, show b - (k : Int) = b + -1 * (k : Int) by omega, if_neg (by rw [hb]; simp)]; simp
theorem vis_get {β : Int → Bool} {s d : Int} {T m : Nat} (h1 : 1 ≤ m) (h2 : m ≤ (vis β s d T).length) :
    ∃ j : Nat, j < T ∧ nthR (vis β s d T) m = s + d * (j : Int) ∧ β (s + d * (j : Int)) = true ∧ (vis β s d (j + 1)).length = m := by
  induction T with
  | zero => exact absurd h2 (by simp [vis]; omega)
  | succ T ih =>
    by_cases g : m ≤ (vis β s d T).length
    · obtain ⟨j, j1, j2, j3, j4⟩ := ih g
      refine ⟨j, by omega, ?_, j3, j4⟩
      obtain ⟨t, ht⟩ := vis_pre β s d (Nat.le_succ T)
      rw [← j2]
      unfold nthR
      rw [if_pos h2, if_pos g, List.getD_eq_getElem?_getD, List.getD_eq_getElem?_getD]
      show (vis β s d (T + 1))[m - 1]?.getD 0 = _
      have ht' : vis β s d (T + 1) = vis β s d T ++ t := ht.symm
      rw [ht', List.getElem?_append_left (by omega)]
    · cases hb : β (s + d * (T : Int)) with
      | false => rw [vis_f hb] at h2; omega
      | true =>
        have e : m = (vis β s d T).length + 1 := by rw [vis_t hb] at h2; simp at h2; omega
        refine ⟨T, by omega, ?_, hb, by rw [vis_t hb, e]; simp⟩
        rw [e, vis_t hb]
        exact (nth_in (List.prefix_refl _)).1

theorem up_cases (W : Int) (hs : List Int) {n : Int} {m : Nat} (h0 : -1 ≤ n) (h1 : n ≤ 3652058) (hm : 1 ≤ m) :
    (upE W hs (n + 1) m = 0 ∧ n < upR W hs (n + 1) m ∧ upR W hs (n + 1) m ≤ 3652058 ∧ bizB W hs (upR W hs (n + 1) m) = true ∧ cnt (bizB W hs) n (upR W hs (n + 1) m) = m) ∨
    (upE W hs (n + 1) m = 8 ∧ upR W hs (n + 1) m = 0 ∧ cnt (bizB W hs) n 3652058 < m) := by
  unfold upE upR
  have hT : (vis (bizB W hs) (n + 1) 1 (3652059 - (n + 1)).toNat).length = cnt (bizB W hs) n 3652058 := by
    rw [vis_up, show n + (((3652059 - (n + 1)).toNat : Nat) : Int) = 3652058 by omega]
  by_cases g : m ≤ (vis (bizB W hs) (n + 1) 1 (3652059 - (n + 1)).toNat).length
  · left
    obtain ⟨j, j1, j2, j3, j4⟩ := vis_get hm g
    rw [j2]
    refine ⟨?_, by omega, by omega, j3, ?_⟩
    · unfold nthE; rw [if_pos g]
    · rw [vis_up] at j4
      rw [← j4]
      exact congrArg _ (by omega)
  · right
    obtain ⟨e1, e2⟩ := nth_out (show (vis (bizB W hs) (n + 1) 1 (3652059 - (n + 1)).toNat).length < m by omega)
    exact ⟨e2, e1, by omega⟩
theorem dn_cases (W : Int) (hs : List Int) {n : Int} {m : Nat} (h0 : -1 ≤ n) (h1 : n ≤ 3652058) (hm : 1 ≤ m) :
    (dnE W hs n m = 0 ∧ 0 ≤ dnR W hs n m ∧ dnR W hs n m ≤ n ∧ bizB W hs (dnR W hs n m) = true ∧ cnt (bizB W hs) (dnR W hs n m - 1) n = m) ∨
    (dnE W hs n m = 8 ∧ dnR W hs n m = 0 ∧ cnt (bizB W hs) (-1) n < m) := by
  unfold dnE dnR
  have hT : (vis (bizB W hs) n (-1) (n + 1).toNat).length = cnt (bizB W hs) (-1) n := by
    rw [vis_dn, show n - (((n + 1).toNat : Nat) : Int) = -1 by omega]
  by_cases g : m ≤ (vis (bizB W hs) n (-1) (n + 1).toNat).length
  · left
    obtain ⟨j, j1, j2, j3, j4⟩ := vis_get hm g
    rw [j2]
    refine ⟨?_, by omega, by omega, j3, ?_⟩
    · unfold nthE; rw [if_pos g]
    · rw [vis_dn] at j4
      rw [← j4]
      rw [show n + -1 * (j : Int) - 1 = n - ((j + 1 : Nat) : Int) by omega]
  · right
    obtain ⟨e1, e2⟩ := nth_out (show (vis (bizB W hs) n (-1) (n + 1).toNat).length < m by omega)
    exact ⟨e2, e1, by omega⟩

end Go.Proofs.Ytgccipmeiceonaa

-- CalF
namespace Go.Proofs.Ytgccipmeiceonaa
open Go.RowKit
set_option linter.unusedVariables false

set_option maxRecDepth 100000 in
theorem step_bad (W n many : Int) (v : Value) (hs : List Int) (w : World) (hr : Reads w v hs) (hf : Fits hs) (hE : daysE W hs [n] ≠ 0) :
    Calls Try.prog 169 #[calV W v, .int .i64 n, .int .i64 many] w fun e w' => e = .returned (.tuple #[.int .i64 0, .int .i64 (daysE W hs [n])]) ∧ Kpt w w' := by
  obtain ⟨a, cap, rfl, hm, hc⟩ := id hr
  have CK := Lib.hid (check1 W n a cap hs w hr hf)
  generalize daysE W hs [n] = x at CK hE ⊢
  have q : (x == 0) = false := beq_eq_false_iff_ne.2 hE
  clear hr hm hc hE
  go_enter Try.func169, Try.ntmps169
  go_wp2_with (first
    | (go_at_call 131; (with_reducible refine CK.out.mono ?_); rintro e w1 ⟨rfl, g1, c0, c1⟩; have G1 := Lib.hid g1; clear g1))
  go_ret2
  exact ⟨rfl, G1.out.kpt⟩
set_option maxRecDepth 100000 in
theorem step_low (W n many : Int) (v : Value) (hs : List Int) (hm : many < -500) (w : World) (hr : Reads w v hs) (hf : Fits hs) (hE : daysE W hs [n] = 0) :
    Calls Try.prog 169 #[calV W v, .int .i64 n, .int .i64 many] w fun e w' => e = .returned (.tuple #[.int .i64 0, .int .i64 3]) ∧ Kpt w w' := by
  obtain ⟨hE0, n0, n1⟩ := daysE_1 hE
  obtain ⟨a, cap, rfl, hm, hc⟩ := id hr
  have CK := Lib.hid (hE ▸ check1 W n a cap hs w hr hf)
  clear hr hm hc hE hE0 hf
  go_enter Try.func169, Try.ntmps169
  go_wp2_with (first
    | (go_at_call 131; (with_reducible refine CK.out.mono ?_); rintro e w1 ⟨rfl, g1, c0, c1⟩; have G1 := Lib.hid g1; clear g1))
  go_ret2
  exact ⟨rfl, G1.out.kpt⟩
set_option maxRecDepth 100000 in
theorem step_high (W n many : Int) (v : Value) (hs : List Int) (hm2 : 500 < many) (w : World) (hr : Reads w v hs) (hf : Fits hs) (hE : daysE W hs [n] = 0) :
    Calls Try.prog 169 #[calV W v, .int .i64 n, .int .i64 many] w fun e w' => e = .returned (.tuple #[.int .i64 0, .int .i64 3]) ∧ Kpt w w' := by
  obtain ⟨hE0, n0, n1⟩ := daysE_1 hE
  obtain ⟨a, cap, rfl, hm, hc⟩ := id hr
  have CK := Lib.hid (hE ▸ check1 W n a cap hs w hr hf)
  clear hr hm hc hE hE0 hf
  have hm3 : ¬ many < -500 := by omega
  go_enter Try.func169, Try.ntmps169
  go_wp2_with (first
    | (go_at_call 131; (with_reducible refine CK.out.mono ?_); rintro e w1 ⟨rfl, g1, c0, c1⟩; have G1 := Lib.hid g1; clear g1))
  go_ret2
  exact ⟨rfl, G1.out.kpt⟩
set_option maxRecDepth 100000 in
theorem step_zero (W n many : Int) (v : Value) (hs : List Int) (hz : many = 0) (w : World) (hr : Reads w v hs) (hf : Fits hs) (hE : daysE W hs [n] = 0) :
    Calls Try.prog 169 #[calV W v, .int .i64 n, .int .i64 many] w fun e w' => e = .returned (.tuple #[.int .i64 n, .int .i64 0]) ∧ Kpt w w' := by
  obtain ⟨hE0, n0, n1⟩ := daysE_1 hE
  obtain ⟨a, cap, rfl, hm, hc⟩ := id hr
  have CK := Lib.hid (hE ▸ check1 W n a cap hs w hr hf)
  clear hr hm hc hE hE0 hf
  subst hz
  go_enter Try.func169, Try.ntmps169
  go_wp2_with (first
    | (go_at_call 131; (with_reducible refine CK.out.mono ?_); rintro e w1 ⟨rfl, g1, c0, c1⟩; have G1 := Lib.hid g1; clear g1))
  go_ret2
  exact ⟨rfl, G1.out.kpt⟩
set_option maxRecDepth 100000 in
set_option maxHeartbeats 1000000 in
theorem step_up (W n many : Int) (v : Value) (hs : List Int) (m0 : 1 ≤ many) (m1 : many ≤ 500) (w : World) (hr : Reads w v hs) (hf : Fits hs) (hE : daysE W hs [n] = 0) :
    Calls Try.prog 169 #[calV W v, .int .i64 n, .int .i64 many] w fun e w' => e = .returned (.tuple #[.int .i64 (upR W hs (n + 1) many.toNat), .int .i64 (upE W hs (n + 1) many.toNat)]) ∧ Kpt w w' := by
  obtain ⟨hE0, n0, n1⟩ := daysE_1 hE
  obtain ⟨a, cap, rfl, hm, hc⟩ := id hr
  have CK := Lib.hid (hE ▸ check1 W n a cap hs w hr hf)
  have BU := Lib.hid (fun w' (g : Grew w w') => business_is W (n + 1) 1 _ hs w' (hr.grew g))
  have NT := Lib.hid (fun b4 b5 b3 => nth_up W a cap hs (n + 1) (by omega) (by omega) b4 b5 b3 many (by omega) (by omega) hE0)
  clear hr hm hc hE hE0 hf
  generalize upR W hs (n + 1) many.toNat = x at NT ⊢
  generalize upE W hs (n + 1) many.toNat = y at NT ⊢
  go_enter Try.func169, Try.ntmps169
  go_wp2_with (first
    | (go_at_call 131; (with_reducible refine CK.out.mono ?_); rintro e w1 ⟨rfl, g1, c0, c1⟩; have G1 := Lib.hid g1; clear g1)
    | (go_at_call 172; (with_reducible refine (BU.out _ G1.out).mono ?_); rintro e w2 ⟨b4, b5, b3, rfl, hH, g2⟩; have HH := Lib.hid hH; have G2 := Lib.hid g2; clear hH g2)
    | (go_at_call 171; (with_reducible refine (NT.out _ _ _ _ HH.out).mono ?_); rintro e w3 ⟨rfl, g3⟩; have G3 := Lib.hid g3; clear g3))
  go_ret2
  exact ⟨rfl, ktr (gtr G1.out G2.out).kpt G3.out⟩
set_option maxRecDepth 100000 in
set_option maxHeartbeats 1000000 in
theorem step_dn (W n many : Int) (v : Value) (hs : List Int) (m0 : many ≤ -1) (m1 : -500 ≤ many) (w : World) (hr : Reads w v hs) (hf : Fits hs) (hE : daysE W hs [n] = 0) :
    Calls Try.prog 169 #[calV W v, .int .i64 n, .int .i64 many] w fun e w' => e = .returned (.tuple #[.int .i64 (dnR W hs (n - 1) (-many).toNat), .int .i64 (dnE W hs (n - 1) (-many).toNat)]) ∧ Kpt w w' := by
  obtain ⟨hE0, n0, n1⟩ := daysE_1 hE
  obtain ⟨a, cap, rfl, hm, hc⟩ := id hr
  have CK := Lib.hid (hE ▸ check1 W n a cap hs w hr hf)
  have BU := Lib.hid (fun w' (g : Grew w w') => business_is W (n - 1) (-1) _ hs w' (hr.grew g))
  have NT := Lib.hid (fun b4 b5 b3 => nth_dn W a cap hs (n - 1) (by omega) (by omega) b4 b5 b3 (-many) (by omega) (by omega) hE0)
  clear hr hm hc hE hE0 hf
  generalize dnR W hs (n - 1) (-many).toNat = x at NT ⊢
  generalize dnE W hs (n - 1) (-many).toNat = y at NT ⊢
  go_enter Try.func169, Try.ntmps169
  go_wp2_with (first
    | (go_at_call 131; (with_reducible refine CK.out.mono ?_); rintro e w1 ⟨rfl, g1, c0, c1⟩; have G1 := Lib.hid g1; clear g1)
    | (go_at_call 172; (with_reducible refine (BU.out _ G1.out).mono ?_); rintro e w2 ⟨b4, b5, b3, rfl, hH, g2⟩; have HH := Lib.hid hH; have G2 := Lib.hid g2; clear hH g2)
    | (go_at_call 171; (with_reducible refine (NT.out _ _ _ _ HH.out).mono ?_); rintro e w3 ⟨rfl, g3⟩; have G3 := Lib.hid g3; clear g3))
  go_ret2
  exact ⟨rfl, ktr (gtr G1.out G2.out).kpt G3.out⟩

/-- what Step answers -/
def stpR (W : Int) (hs : List Int) (n many : Int) : Int := if many < -500 ∨ 500 < many then 0 else if many = 0 then n else if 0 < many then upR W hs (n + 1) many.toNat else dnR W hs (n - 1) (-many).toNat
def stpE (W : Int) (hs : List Int) (n many : Int) : Int := if many < -500 ∨ 500 < many then 3 else if many = 0 then 0 else if 0 < many then upE W hs (n + 1) many.toNat else dnE W hs (n - 1) (-many).toNat
theorem step_ok (W n many : Int) (v : Value) (hs : List Int) (w : World) (hr : Reads w v hs) (hf : Fits hs) (hE : daysE W hs [n] = 0) :
    Calls Try.prog 169 #[calV W v, .int .i64 n, .int .i64 many] w fun e w' => e = .returned (.tuple #[.int .i64 (stpR W hs n many), .int .i64 (stpE W hs n many)]) ∧ Kpt w w' := by
  unfold stpR stpE
  by_cases a : many < -500 ∨ 500 < many
  · rw [if_pos a, if_pos a]
    rcases a with a | a
    · exact step_low W n many v hs a w hr hf hE
    · exact step_high W n many v hs a w hr hf hE
  · rw [if_neg a, if_neg a]
    by_cases b : many = 0
    · rw [if_pos b, if_pos b]; exact step_zero W n many v hs b w hr hf hE
    · rw [if_neg b, if_neg b]
      by_cases c : 0 < many
      · rw [if_pos c, if_pos c]; exact step_up W n many v hs (by omega) (by omega) w hr hf hE
      · rw [if_neg c, if_neg c]; exact step_dn W n many v hs (by omega) (by omega) w hr hf hE

end Go.Proofs.Ytgccipmeiceonaa
