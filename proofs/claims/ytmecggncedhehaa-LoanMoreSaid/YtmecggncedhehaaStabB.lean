/-
  What symMergeCmpFunc of package slices does where the one side has one element alone.
-/
import Derived.Test.YtmecggncedhehaaStabA
import Derived.Deep.QuietTactic
import Derived.BigQuiet
import Derived.Shelf.Abstract
namespace Go.Proofs.Ytmecggncedhehaa
open Go.RowKit
set_option linter.unusedVariables false

/-- the comparison, in every world in which nothing ahead of block blk has turned -/
def CmpAt (fn : Nat) (cb : Array Value) (cf : Int → Int → Int) (N blk : Nat) (w : World) : Prop :=
  ∀ W, Below blk w W → ∀ x y : Int, 0 ≤ x → x < N → 0 ≤ y → y < N → Calls Try.prog fn (#[.int .i64 x, .int .i64 y] ++ cb) W fun e w' => e = .returned (.int .i64 (cf x y)) ∧ ∃ q, w' = W.drewN q
theorem CmpAt.on {fn : Nat} {cb : Array Value} {cf : Int → Int → Int} {N blk : Nat} {w w' : World} (h : CmpAt fn cb cf N blk w) (b : Below blk w w') : CmpAt fn cb cf N blk w' := fun W k => h W (b.trans k)
theorem CmpAt.quiet {fn : Nat} {cb : Array Value} {cf : Int → Int → Int} {N blk : Nat} {w w' : World} (h : CmpAt fn cb cf N blk w) (b : Below blk w w') {x y : Int} (hx : 0 ≤ x ∧ x < N) (hy : 0 ≤ y ∧ y < N) (n : Nat) :
    Calls Try.prog fn (#[.int .i64 x, .int .i64 y] ++ cb) (w'.drewN n) fun e w'' => e = .returned (.int .i64 (cf x y)) ∧ ∃ q, w'' = (w'.drewN n).drewN q :=
  h (w'.drewN n) (b.trans ⟨rfl, rfl, rfl, by simp [World.drewN], fun k hk => rfl⟩) x y hx.1 hx.2 hy.1 hy.2
/-- the part between A and B holds what L holds, in order -/
def Mg (lx : Int → Int → Prop) (w : World) (blk : Nat) (A L B : List Int) (w' : World) : Prop := ∃ M, SI w blk (A ++ M ++ B) w' ∧ M.Perm L ∧ M.Pairwise lx
theorem swp2_comm (d : List Int) (i j : Nat) (h : i ≠ j) : swp2 d i j = swp2 d j i := by
  unfold swp2
  rw [List.set_comm _ _ h]

set_option maxRecDepth 100000 in
set_option maxHeartbeats 8000000 in
theorem sm_up (fn : Nat) (cb : Array Value) (cf : Int → Int → Int) (lx : Int → Int → Prop) (N blk cap : Nat) (K : Keyed N cf lx) (eg : ∀ args w, (callFunc fn args).run Try.prog w = .ok (.enter fn args) w)
    (A V B : List Int) (x : Int) (a m b : Nat) (w : World) (hr : Row w blk (A ++ x :: V ++ B)) (ha : A.length = a) (hm : m = a + 1) (hb : m + V.length = b) (hV : V.Pairwise lx) (hlt : ∀ v ∈ V, x < v) (hx : 0 ≤ x ∧ x < N) (hvb : ∀ v ∈ V, 0 ≤ v ∧ v < N) (hl : (A ++ x :: V ++ B).length ≤ 1000000) (hc : CmpAt fn cb cf N blk w) :
    Calls Try.prog 149 #[.slice (some ⟨blk, 0, none⟩) (A ++ x :: V ++ B).length cap, .int .i64 a, .int .i64 m, .int .i64 b, .func (.func fn) #[] cb] w fun e w' => e = .returned (.tuple #[]) ∧ Mg lx w blk A (x :: V) B w' := by
  have dl : (A ++ x :: V ++ B).length = b + B.length := by simp; omega
  have HM : Hid (∀ c, m ≤ c → c < b → (A ++ x :: V ++ B).getD c 0 ∈ V) := fun c h0 h1 => by
    rw [show A ++ x :: V ++ B = (A ++ [x]) ++ V ++ B by simp]
    exact mem_mid (by simp; omega) h0 (by omega)
  have HX : Hid ((A ++ x :: V ++ B).getD a 0 = x) := by
    rw [show A ++ x :: V ++ B = A ++ x :: (V ++ B) by simp]; exact getD_mid ha
  have FIN : Hid (∀ i, m ≤ i → i ≤ b → (i = m ∨ lx ((A ++ x :: V ++ B).getD (i - 1) 0) x) → (i = b ∨ lx x ((A ++ x :: V ++ B).getD i 0)) → ∃ M, shup (A ++ x :: V ++ B) a (i - 1 - a) = A ++ M ++ B ∧ M.Perm (x :: V) ∧ M.Pairwise lx) := fun i h0 h1 e1 e2 =>
    one_up K.tr ha (by omega) hV (by omega) h1 (by rw [← hm]; exact e1) e2
  generalize A ++ x :: V ++ B = D at hr hl dl HM HX FIN ⊢
  have HVB : Hid (∀ v ∈ V, x < v ∧ 0 ≤ v ∧ v < N) := fun v hv => ⟨hlt v hv, hvb v hv⟩
  have H0 := Lib.hid hr
  have HC := Lib.hid hc
  have HK := Lib.hid K
  have HM0 := Lib.hid hm
  have hbm : m ≤ b := by omega
  have hma : (m : Int) - (a : Int) = 1 := by omega
  have hbl : b ≤ D.length := by omega
  have ham : a < m := by omega
  clear hr hc K hV hlt hvb ha hb dl hm
  go_enter Try.func149, Try.ntmps149
  go_wp2
  go_loopw [10, 11] (fun s t wr => ∃ i r : Nat, s = .int .i64 i ∧ t = .int .i64 r ∧ m ≤ i ∧ i ≤ r ∧ r ≤ b ∧ Hid (SI w blk D wr) ∧ Hid (i = m ∨ lx (D.getD (i - 1) 0) x) ∧ Hid (r = b ∨ lx x (D.getD r 0))) (fun s t _ => (intOf t).toNat - (intOf s).toNat)
  case atStart => exact ⟨m, b, rfl, rfl, Nat.le_refl _, hbm, Nat.le_refl _, SI.refl H0.out, .inl rfl, .inl rfl⟩
  case round =>
    obtain ⟨i, r, rfl, rfl, hmi, hir, hrb, HS, E1, E2⟩ := hrel
    by_cases hlt : i < r
    · obtain ⟨c, hcd⟩ : ∃ c, c = (i + r) / 2 := ⟨_, rfl⟩
      have ea : (((i : Int) + (r : Int)) / 2).toNat = c := by omega
      have l1 : ((i : Int) + (r : Int)) / 2 < (D.length : Int) := by omega
      have z1 : (0 : Int) ≤ ((i : Int) + (r : Int)) / 2 := by omega
      have l2 : (a : Int) < (D.length : Int) := by omega
      have c1 := HS.out.row.cell (j := c) (by omega)
      have c2 := HS.out.row.cell (j := a) (by omega)
      rw [HX.out] at c2
      have hy := HVB.out _ (HM.out c (by omega) (by omega))
      obtain ⟨y, hyd⟩ : ∃ y, D.getD c 0 = y := ⟨_, rfl⟩
      rw [hyd] at c1 hy
      have HY := Lib.hid hyd
      have CQ := Lib.hid (HC.out.quiet HS.out.bel hy.2 hx)
      have HC1 : Hid (((i : Int) + (r : Int)) / 2 = (c : Int)) := by unfold Hid; omega
      have HCB : Hid (i ≤ c ∧ c < r) := by unfold Hid; omega
      clear hyd hcd
      by_cases hcf : cf y x < 0
      · have E3 : Hid (lx y x) := HK.out.lt x y hx.1 hx.2 hy.2.1 hy.2.2 hy.1 hcf
        clear hy
        go_wp2
        go_quiet (first | (go_at_fn fn; refine Calls.quiet_of (CQ.out _)))
        go_wp2
        go_roundw
        case rel => exact ⟨c + 1, r, by rw [HC1.out]; go_num, rfl, by have := HCB.out; omega, by have := HCB.out; omega, hrb, HS.out.drewN _, .inr (by rw [Nat.add_sub_cancel, HY.out]; exact E3.out), E2.out⟩
        case measure => have := HCB.out; simp [intOf]; omega
      · have E3 : Hid (lx x y) := HK.out.ge x y hx.1 hx.2 hy.2.1 hy.2.2 hy.1 hcf
        clear hy
        go_wp2
        go_quiet (first | (go_at_fn fn; refine Calls.quiet_of (CQ.out _)))
        go_wp2
        go_roundw
        case rel => exact ⟨i, c, rfl, by rw [HC1.out], hmi, HCB.out.1, by have := HCB.out; omega, HS.out.drewN _, E1.out, .inr (by rw [HY.out]; exact E3.out)⟩
        case measure => have := HCB.out; simp [intOf]; omega
    · obtain rfl : r = i := by omega
      have F := FIN.out r hmi hrb E1.out E2.out
      have HF := Lib.hid F
      clear F
      go_wp2
      go_loopw [13] (fun s wr => ∃ p : Nat, s = .int .i64 p ∧ a ≤ p ∧ p ≤ r - 1 ∧ Hid (SI w blk (shup D a (p - a)) wr)) (fun s _ => r - (intOf s).toNat)
      case atStart => exact ⟨a, rfl, Nat.le_refl _, by omega, by unfold Hid; rw [Nat.sub_self]; exact HS.out⟩
      case round =>
        obtain ⟨p, rfl, hap, hpr, HP⟩ := hrel
        by_cases hlt : p < r - 1
        · obtain ⟨q, hq⟩ : ∃ q, q = p + 1 := ⟨_, rfl⟩
          have hlen : (shup D a (p - a)).length = D.length := shup_len D a _
          have hn : shup D a (q - a) = swp2 (shup D a (p - a)) p q := by
            rw [show q - a = (p - a) + 1 by omega, shup, show a + (p - a) = p by omega, ← hq]
          have HN := Lib.hid hn
          generalize shup D a (p - a) = E at HP hlen HN
          have c1 := HP.out.row.cell (j := p) (by omega)
          have c2 := HP.out.row.cell (j := q) (by omega)
          have f1 := HP.out.row.frozen p
          have f2 := HP.out.row.frozen q
          obtain ⟨x1, hx1⟩ : ∃ x1, E.getD p 0 = x1 := ⟨_, rfl⟩
          obtain ⟨y1, hy1⟩ : ∃ y1, E.getD q 0 = y1 := ⟨_, rfl⟩
          rw [hx1] at c1
          rw [hy1] at c2
          have HX1 := Lib.hid hx1
          have HY1 := Lib.hid hy1
          have HQ := Lib.hid hq
          have e2 : ((p : Int) + 1).toNat = q := by omega
          have l1 : (p : Int) < (D.length : Int) := by omega
          have l2 : (p : Int) + 1 < (D.length : Int) := by omega
          have z2 : (0 : Int) ≤ (p : Int) + 1 := by omega
          have w2 : IntKind.i64.wrap ((p : Int) + 1) = (p : Int) + 1 := by rw [IntKind.wrap_i64]; omega
          have hz : (p : Int) < (r : Int) - 1 := by omega
          have c3 : (wr.setCell ⟨blk, p, none⟩ (.int .i64 y1)).cell? ⟨blk, q, none⟩ = some (.int .i64 y1) := ne_cell (by omega) c2
          clear hx1 hy1 hn hlen hq
          go_wp2
          go_region
          have HS2 : Hid (SI w blk (shup D a (q - a)) (((wr.setCell ⟨blk, p, none⟩ (.int .i64 y1)).setCell ⟨blk, q, none⟩ (.int .i64 x1)).drew)) := by
            unfold Hid; rw [HN.out]; exact (HP.out.swp p q HX1.out HY1.out).drewN 1
          clear c1 c2 c3 f1 f2 HP
          generalize (((wr.setCell ⟨blk, p, none⟩ (.int .i64 y1)).setCell ⟨blk, q, none⟩ (.int .i64 x1)).drew) = W2 at HS2 ⊢
          go_wp2
          go_roundw
          case rel => exact ⟨q, by rw [HQ.out]; go_num, by have := HQ.out; omega, by have := HQ.out; omega, HS2.out⟩
          case measure => have := HQ.out; simp [intOf]; omega
        · have hz : ¬ (p : Int) < (r : Int) - 1 := by omega
          obtain rfl : p = r - 1 := by omega
          go_wp2
          (try simp only [Exit.inBlock, Exit.then])
          refine bodyPost_ret (results_none rfl _ _ _) rfl ?_
          obtain ⟨M, h1, h2, h3⟩ := HF.out
          exact ⟨rfl, M, by rw [← h1]; exact HP.out, h2, h3⟩

set_option maxRecDepth 100000 in
set_option maxHeartbeats 8000000 in
theorem sm_dn (fn : Nat) (cb : Array Value) (cf : Int → Int → Int) (lx : Int → Int → Prop) (N blk cap : Nat) (K : Keyed N cf lx) (eg : ∀ args w, (callFunc fn args).run Try.prog w = .ok (.enter fn args) w)
    (A U B : List Int) (x : Int) (a m b : Nat) (w : World) (hr : Row w blk (A ++ U ++ x :: B)) (ha : A.length = a) (hm : a + U.length = m) (hb : b = m + 1) (hu : 1 < U.length) (hU : U.Pairwise lx) (hlt : ∀ u ∈ U, u < x) (hx : 0 ≤ x ∧ x < N) (hub : ∀ u ∈ U, 0 ≤ u ∧ u < N) (hl : (A ++ U ++ x :: B).length ≤ 1000000) (hc : CmpAt fn cb cf N blk w) :
    Calls Try.prog 149 #[.slice (some ⟨blk, 0, none⟩) (A ++ U ++ x :: B).length cap, .int .i64 a, .int .i64 m, .int .i64 b, .func (.func fn) #[] cb] w fun e w' => e = .returned (.tuple #[]) ∧ Mg lx w blk A (U ++ [x]) B w' := by
  have dl : (A ++ U ++ x :: B).length = b + B.length := by simp; omega
  have HM : Hid (∀ c, a ≤ c → c < m → (A ++ U ++ x :: B).getD c 0 ∈ U) := fun c h0 h1 => mem_mid ha h0 (by omega)
  have HX : Hid ((A ++ U ++ x :: B).getD m 0 = x) := getD_mid (by simp; omega)
  have FIN : Hid (∀ i, a ≤ i → i ≤ m → (i = a ∨ lx ((A ++ U ++ x :: B).getD (i - 1) 0) x) → (i = m ∨ lx x ((A ++ U ++ x :: B).getD i 0)) → ∃ M, shdn (A ++ U ++ x :: B) m (m - i) = A ++ M ++ B ∧ M.Perm (U ++ [x]) ∧ M.Pairwise lx) := fun i h0 h1 e1 e2 =>
    one_dn K.tr ha hm hU h0 h1 e1 e2
  generalize A ++ U ++ x :: B = D at hr hl dl HM HX FIN ⊢
  have HVB : Hid (∀ u ∈ U, u < x ∧ 0 ≤ u ∧ u < N) := fun v hv => ⟨hlt v hv, hub v hv⟩
  have H0 := Lib.hid hr
  have HC := Lib.hid hc
  have HK := Lib.hid K
  have HM0 := Lib.hid hm
  have hbm : (b : Int) - (m : Int) = 1 := by omega
  have hma : ((m : Int) - (a : Int) == 1) = false := by simp; omega
  have hma2 : ¬ (m : Int) - (a : Int) = 1 := by omega
  have ham : a ≤ m := by omega
  have hml : m < D.length := by omega
  clear hr hc K hU hlt hub ha hb dl hm hu
  go_enter Try.func149, Try.ntmps149
  go_wp2
  go_loopw [14, 15] (fun s t wr => ∃ i r : Nat, s = .int .i64 i ∧ t = .int .i64 r ∧ a ≤ i ∧ i ≤ r ∧ r ≤ m ∧ Hid (SI w blk D wr) ∧ Hid (i = a ∨ lx (D.getD (i - 1) 0) x) ∧ Hid (r = m ∨ lx x (D.getD r 0))) (fun s t _ => (intOf t).toNat - (intOf s).toNat)
  case atStart => exact ⟨a, m, rfl, rfl, Nat.le_refl _, ham, Nat.le_refl _, SI.refl H0.out, .inl rfl, .inl rfl⟩
  case round =>
    obtain ⟨i, r, rfl, rfl, hmi, hir, hrb, HS, E1, E2⟩ := hrel
    by_cases hlt : i < r
    · obtain ⟨c, hcd⟩ : ∃ c, c = (i + r) / 2 := ⟨_, rfl⟩
      have ea : (((i : Int) + (r : Int)) / 2).toNat = c := by omega
      have l1 : ((i : Int) + (r : Int)) / 2 < (D.length : Int) := by omega
      have z1 : (0 : Int) ≤ ((i : Int) + (r : Int)) / 2 := by omega
      have l2 : (m : Int) < (D.length : Int) := by omega
      have c1 := HS.out.row.cell (j := c) (by omega)
      have c2 := HS.out.row.cell (j := m) (by omega)
      rw [HX.out] at c2
      have hy := HVB.out _ (HM.out c (by omega) (by omega))
      obtain ⟨y, hyd⟩ : ∃ y, D.getD c 0 = y := ⟨_, rfl⟩
      rw [hyd] at c1 hy
      have HY := Lib.hid hyd
      have CQ := Lib.hid (HC.out.quiet HS.out.bel hx hy.2)
      have HC1 : Hid (((i : Int) + (r : Int)) / 2 = (c : Int)) := by unfold Hid; omega
      have HCB : Hid (i ≤ c ∧ c < r) := by unfold Hid; omega
      clear hyd hcd
      by_cases hcf : cf x y < 0
      · have E3 : Hid (lx x y) := HK.out.lt y x hy.2.1 hy.2.2 hx.1 hx.2 hy.1 hcf
        have hcd : decide (cf x y < 0) = true := decide_eq_true hcf
        clear hy hcf
        go_wp2
        go_quiet (first | (go_at_fn fn; refine Calls.quiet_of (CQ.out _)))
        go_wp2
        go_roundw
        case rel => exact ⟨i, c, rfl, by rw [HC1.out], hmi, HCB.out.1, by have := HCB.out; omega, HS.out.drewN _, E1.out, .inr (by rw [HY.out]; exact E3.out)⟩
        case measure => have := HCB.out; simp [intOf]; omega
      · have E3 : Hid (lx y x) := HK.out.ge y x hy.2.1 hy.2.2 hx.1 hx.2 hy.1 hcf
        have hcd : decide (cf x y < 0) = false := decide_eq_false hcf
        clear hy hcf
        go_wp2
        go_quiet (first | (go_at_fn fn; refine Calls.quiet_of (CQ.out _)))
        go_wp2
        go_roundw
        case rel => exact ⟨c + 1, r, by rw [HC1.out]; go_num, rfl, by have := HCB.out; omega, by have := HCB.out; omega, hrb, HS.out.drewN _, .inr (by rw [Nat.add_sub_cancel, HY.out]; exact E3.out), E2.out⟩
        case measure => have := HCB.out; simp [intOf]; omega
    · obtain rfl : r = i := by omega
      have F := FIN.out r hmi hrb E1.out E2.out
      have HF := Lib.hid F
      clear F
      go_wp2
      go_loopw [17] (fun s wr => ∃ p : Nat, s = .int .i64 p ∧ r ≤ p ∧ p ≤ m ∧ Hid (SI w blk (shdn D m (m - p)) wr)) (fun s _ => (intOf s).toNat)
      case atStart => exact ⟨m, rfl, hrb, Nat.le_refl _, by unfold Hid; rw [Nat.sub_self]; exact HS.out⟩
      case round =>
        obtain ⟨p, rfl, hap, hpr, HP⟩ := hrel
        by_cases hlt : r < p
        · obtain ⟨q, hq⟩ : ∃ q, p = q + 1 := ⟨p - 1, by omega⟩
          have hlen : (shdn D m (m - p)).length = D.length := shdn_len D m _
          have hn : shdn D m (m - q) = swp2 (shdn D m (m - p)) p q := by
            rw [show m - q = (m - p) + 1 by omega, shdn, show m - (m - p) - 1 = q by omega, show m - (m - p) = p by omega, swp2_comm _ _ _ (by omega)]
          have HN := Lib.hid hn
          generalize shdn D m (m - p) = E at HP hlen HN
          have c1 := HP.out.row.cell (j := p) (by omega)
          have c2 := HP.out.row.cell (j := q) (by omega)
          have f1 := HP.out.row.frozen p
          have f2 := HP.out.row.frozen q
          obtain ⟨x1, hx1⟩ : ∃ x1, E.getD p 0 = x1 := ⟨_, rfl⟩
          obtain ⟨y1, hy1⟩ : ∃ y1, E.getD q 0 = y1 := ⟨_, rfl⟩
          rw [hx1] at c1
          rw [hy1] at c2
          have HX1 := Lib.hid hx1
          have HY1 := Lib.hid hy1
          have HQ := Lib.hid hq
          have e2 : ((p : Int) - 1).toNat = q := by omega
          have l1 : (p : Int) < (D.length : Int) := by omega
          have l2 : (p : Int) - 1 < (D.length : Int) := by omega
          have z2 : (0 : Int) ≤ (p : Int) - 1 := by omega
          have w2 : IntKind.i64.wrap ((p : Int) - 1) = (p : Int) - 1 := by rw [IntKind.wrap_i64]; omega
          have c3 : (wr.setCell ⟨blk, p, none⟩ (.int .i64 y1)).cell? ⟨blk, q, none⟩ = some (.int .i64 y1) := ne_cell (by omega) c2
          clear hx1 hy1 hn hlen hq
          go_wp2
          go_region
          have HS2 : Hid (SI w blk (shdn D m (m - q)) (((wr.setCell ⟨blk, p, none⟩ (.int .i64 y1)).setCell ⟨blk, q, none⟩ (.int .i64 x1)).drew)) := by
            unfold Hid; rw [HN.out]; exact (HP.out.swp p q HX1.out HY1.out).drewN 1
          clear c1 c2 c3 f1 f2 HP
          generalize (((wr.setCell ⟨blk, p, none⟩ (.int .i64 y1)).setCell ⟨blk, q, none⟩ (.int .i64 x1)).drew) = W2 at HS2 ⊢
          go_wp2
          go_roundw
          case rel => exact ⟨q, by rw [HQ.out]; go_num, by have := HQ.out; omega, by have := HQ.out; omega, HS2.out⟩
          case measure => have := HQ.out; simp [intOf]; omega
        · obtain rfl : p = r := by omega
          go_wp2
          (try simp only [Exit.inBlock, Exit.then])
          refine bodyPost_ret (results_none rfl _ _ _) rfl ?_
          obtain ⟨M, h1, h2, h3⟩ := HF.out
          exact ⟨rfl, M, by rw [← h1]; exact HP.out, h2, h3⟩

end Go.Proofs.Ytmecggncedhehaa
