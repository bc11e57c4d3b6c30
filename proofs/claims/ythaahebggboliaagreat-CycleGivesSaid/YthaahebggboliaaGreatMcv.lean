/-
  Merged: CycU, BookL, BookM, BookN, BookP, CycV, RefFail, LawCO.
-/
import Derived.Test.YthaahebggboliaaGreatMcg
import Derived.Test.YthaahebggboliaaGreatMa1
import Derived.Test.YthaahebggboliaaGreatMb5
import Derived.Test.YthaahebggboliaaGreatMcl
import Derived.Test.YthaahebggboliaaGreatMf1
import Derived.Test.YthaahebggboliaaGreatMcr
import Derived.Test.YthaahebggboliaaGreatMca
import Derived.Test.YthaahebggboliaaGreatMp3
-- CycU
namespace Go.Proofs.YthaahebggboliaaGreat
open Go.RowKit
set_option linter.unusedVariables false

theorem cm_0 {W : Int} {hs : List Int} {ts : List (List Int)} {ps : List Int} {X q : Int} : ∀ {fs : List (List Int)} {b : List (Int × Int × Int)}, cmE W hs ts ps X q fs b = 0 → ∀ l ∈ fs, lkL W hs (tlOf ts l) l q = 0
  | [], _, _ => fun l hl => by cases hl
  | m :: fs, b, h => by
    unfold cmE at h
    split at h
    · next h1 =>
      have ih : ∃ b', cmE W hs ts ps X q fs b' = 0 := by
        split at h
        · split at h
          · exact ⟨_, h⟩
          · next h3 => exact absurd h h3
        · exact ⟨_, h⟩
      obtain ⟨b', ih⟩ := ih
      intro l hl
      rcases List.mem_cons.1 hl with rfl | hl
      · exact h1
      · exact cm_0 ih l hl
    · next h1 => exact absurd h h1
theorem nt_0 {W X T : Int} {hs ps : List Int} {ts fs : List (List Int)} {b : List (Int × Int × Int)} (h : ntE W hs ts X fs ps T b = 0) : rulE W hs ts X = 0 ∧ wldE T fs b = 0 ∧ pnE W hs ts fs ps T b = 0 ∧ cmE W hs ts ps X T fs (pnB W hs ts fs ps T b) = 0 ∧ steE W hs T 1 = 0 := by
  obtain ⟨h1, h2⟩ := orE_0 h
  obtain ⟨h3, h4⟩ := orE_0 h2
  unfold nigE at h4
  split at h4
  · next h5 =>
    split at h4
    · next h6 => exact ⟨h1, h3, h5, h6, h4⟩
    · next h6 => exact absurd h4 h6
  · next h5 => exact absurd h4 h5
theorem fail_pay {i f t c p d u x b y : Int} (h : failE i f t c p d u x b y = 0) : failE i f t c p d u x b (y + openV i f t c p d u x b y) = 0 ∧ openV i f t c p d u x b (y + openV i f t c p d u x b y) = 0 := by
  obtain ⟨h1, h2, h3, h4⟩ := fail_0 h
  have e : openV i f t c p d u x b y = u - x - b - y := by unfold openV; rw [if_pos h]
  rw [e]
  have k : failE i f t c p d u x b (y + (u - x - b - y)) = 0 := by
    unfold failE
    rw [if_pos h1, if_neg h2, if_pos, if_neg (by omega)]
    obtain ⟨a1, a2, a3⟩ := ftk_t h3
    simp only [ftk, Bool.and_eq_true]
    exact ⟨decide_eq_true a1, decide_eq_true a2, decide_eq_true (by omega)⟩
  refine ⟨k, ?_⟩
  unfold openV
  rw [if_pos k]
  omega
theorem payF_ok {l : List Int} (h : failEL l = 0) : failEL (payF l) = 0 ∧ opL (payF l) = 0 := fail_pay h
/-- what a fail is behind a night -/
theorem cmG_ok {W : Int} {hs : List Int} {ts : List (List Int)} {q : Int} {l : List Int} (h : lkL W hs (tlOf ts l) l q = 0) :
    failEL (cmG W hs ts q l) = 0 ∧ tlOf ts (cmG W hs ts q l) = tlOf ts l ∧ (cmG W hs ts q l).getD 5 0 = l.getD 5 0 ∧ (cmG W hs ts q l).getD 3 0 = l.getD 3 0 := by
  have hf := lkL_fl h
  unfold cmG
  split
  · exact ⟨(payF_ok hf).1, rfl, rfl, rfl⟩
  · exact ⟨hf, rfl, rfl, rfl⟩
theorem cmG_end {W : Int} {hs : List Int} {ts : List (List Int)} {q : Int} {l : List Int} (h : lkL W hs (tlOf ts l) l q = 0) (ht : 0 ≤ (tlOf ts l).getD 0 0 ∧ 0 ≤ (tlOf ts l).getD 1 0 ∧ 0 ≤ (tlOf ts l).getD 2 0)
    (h3 : dayAt W hs (l.getD 5 0) ((tlOf ts l).getD 0 0) ((tlOf ts l).getD 1 0) ((tlOf ts l).getD 2 0) 3 < q) (h5 : l.getD 5 0 < q) : opL (cmG W hs ts q l) = 0 := by
  obtain ⟨k1, k2, k3, k4⟩ := lk_0 h
  have up := day_up ht.1 ht.2.1 ht.2.2 k4
  have hf := lkL_fl h
  unfold cmG
  split
  · exact (payF_ok hf).2
  · next h4 =>
    have e : stL W hs (tlOf ts l) l q = stgV (opL l) (l.getD 5 0) (dayAt W hs (l.getD 5 0) ((tlOf ts l).getD 0 0) ((tlOf ts l).getD 1 0) ((tlOf ts l).getD 2 0) 1) (dayAt W hs (l.getD 5 0) ((tlOf ts l).getD 0 0) ((tlOf ts l).getD 1 0) ((tlOf ts l).getD 2 0) 2) (dayAt W hs (l.getD 5 0) ((tlOf ts l).getD 0 0) ((tlOf ts l).getD 1 0) ((tlOf ts l).getD 2 0) 3) q := if_pos h
    rw [e] at h4
    unfold stgV at h4
    by_cases o0 : opL l = 0
    · exact o0
    · exfalso
      apply h4
      rw [if_neg o0, if_neg (by omega), if_neg (by omega), if_neg (by omega), if_neg (by omega)]

end Go.Proofs.YthaahebggboliaaGreat

-- BookL
namespace Go.Proofs.YthaahebggboliaaGreat
open Go.RowKit Go.Sort Go.Lib
set_option linter.unusedVariables false

/-- the opposite posting -/
def negP (p : Int × Int × Int) : Int × Int × Int := (p.1, p.2.1, -p.2.2)
def turnP (l : List (Int × Int × Int)) : List (Int × Int × Int) := l.reverse.map negP

theorem flatP_set (ps : List (Int × Int × Int)) (k : Nat) (hk : k < ps.length) (x : Int) : (flatP ps).set (k * 3 + 2) (.int .i64 x) = flatP (ps.set k ((ps.getD k default).1, (ps.getD k default).2.1, x)) := by
  induction ps generalizing k with
  | nil => simp at hk
  | cons p l ih =>
    have e : ∀ q m, flatP (q :: m) = .int .i64 q.1 :: .int .i64 q.2.1 :: .int .i64 q.2.2 :: flatP m := fun _ _ => rfl
    cases k with
    | zero => rw [e]; rfl
    | succ k =>
      have := ih k (by simpa using hk)
      rw [e, show (k + 1) * 3 + 2 = (k * 3 + 2) + 1 + 1 + 1 by omega]
      simp only [List.set_cons_succ, this, List.getD_cons_succ]
      rw [e]
theorem OwnsP.put {w : World} {base blk n cap : Nat} {ps : List (Int × Int × Int)} (h : OwnsP w base (.slice (some ⟨blk, 0, none⟩) n cap) ps) (k : Nat) (hk : k < ps.length) (x : Int) :
    OwnsP (w.setCell ⟨blk, k * 3 + 2, none⟩ (.int .i64 x)) base (.slice (some ⟨blk, 0, none⟩) n cap) (ps.set k ((ps.getD k default).1, (ps.getD k default).2.1, x)) := by
  rcases h.2 with ⟨e, _⟩ | ⟨g, cap', cur, e, hg, hh, hc, hm, hs, ht⟩
  · cases e
  · injection e with e1 e2 e3
    injection e1 with e1
    injection e1 with e1 _ _
    subst e1; subst e3; subst e2
    refine ⟨by rw [flatP_len], .inr ⟨blk, cap, cur.setIfInBounds (k * 3 + 2) (.int .i64 x), by rw [List.length_set], hg, ?_, by rw [List.length_set]; exact hc, hm, by simpa using hs, ?_⟩⟩
    · simp [World.setCell, Array.getElem?_modify, hh]
    · rw [List.length_set, Array.toList_setIfInBounds, List.take_set, ht, flatP_set ps k hk]
theorem OwnsP.at_ {w : World} {base blk n cap : Nat} {ps : List (Int × Int × Int)} (h : OwnsP w base (.slice (some ⟨blk, 0, none⟩) n cap) ps) (k : Nat) (hk : k < ps.length) :
    PtAt w blk (k * 3) (ps.getD k default) ∧ w.frozen? ⟨blk, k * 3 + 2, none⟩ = false := by
  rcases h.2 with ⟨e, _⟩ | ⟨g, cap', cur, e, hg, hh, hc, hm, hs, ht⟩
  · cases e
  · injection e with e1 e2 e3
    injection e1 with e1
    injection e1 with e1 _ _
    subst e1; subst e3; subst e2
    have hcc : ∀ i, w.cell? ⟨blk, i, none⟩ = cur[i]? := fun i => cell_of_row w blk i cur _ (0, 0) hh
    have hi : ∀ i, i < ps.length * 3 → cur[i]? = (flatP ps)[i]? := fun i hi => by
      rw [← ht, List.getElem?_take_of_lt (by omega), ← Array.getElem?_toList]
    obtain ⟨e0, e1, e2⟩ := flatP_at ps k hk
    exact ⟨⟨by rw [hcc, hi _ (by omega), e0], by rw [hcc, hi _ (by omega), e1], by rw [hcc, hi _ (by omega), e2]⟩, by simp [World.frozen?, hh]⟩

/-- turned so far -/
def halfT (l : List (Int × Int × Int)) (k : Nat) : List (Int × Int × Int) := (l.reverse.take k).map negP ++ l.reverse.drop k
theorem halfT_len (l : List (Int × Int × Int)) (k : Nat) : (halfT l k).length = l.length := by
  unfold halfT; simp; omega
theorem halfT_at (l : List (Int × Int × Int)) (k : Nat) (hk : k < l.length) : (halfT l k).getD k default = l.reverse.getD k default := by
  unfold halfT
  rw [List.getD_eq_getElem?_getD, List.getD_eq_getElem?_getD, List.getElem?_append_right (by simp; omega)]
  simp [show min k l.length = k by omega]
theorem halfT_set (l : List (Int × Int × Int)) (k : Nat) (hk : k < l.length) : (halfT l k).set k (negP (l.reverse.getD k default)) = halfT l (k + 1) := by
  unfold halfT
  have hr : k < l.reverse.length := by simpa using hk
  rw [List.take_succ_eq_append_getElem hr, List.map_append, List.drop_eq_getElem_cons hr, List.set_append, if_neg (by simp; omega)]
  have : k - ((l.reverse.take k).map negP).length = 0 := by simp; omega
  rw [this, List.set_cons_zero, List.getD_eq_getElem?_getD, List.getElem?_eq_getElem hr]
  simp

theorem kpt_grown' {w w1 w2 w3 : World} {blk n cap : Nat} {ps : List (Int × Int × Int)} (h : Kpt w w2) (hg : w2.grownBy w3 (some blk)) (ho : OwnsP w2 w1.heap.size (.slice (some ⟨blk, 0, none⟩) n cap) ps) (h1 : w.heap.size ≤ w1.heap.size) : Kpt w w3 :=
  Below.grown h hg h.size fun k hk => by
    injection hk with hk
    subst hk
    have := ho.ge blk rfl
    omega
def TurnEnd (w : World) (l : List (Int × Int × Int)) (e : Ending) (w' : World) : Prop :=
  Kpt w w' ∧ ((chkE l ≠ 0 ∧ e = .returned (.tuple #[.slice none 0 0, .int .i64 (chkE l)])) ∨ (chkE l = 0 ∧ ∃ a cap, OwnsP w' w.heap.size (.slice a l.length cap) (turnP l) ∧ e = .returned (.tuple #[.slice a l.length cap, .int .i64 0])))

theorem turn_bad (v : Value) (l : List (Int × Int × Int)) (w : World) (hl : ReadsP w v l) (h : chkE l ≠ 0) : Calls Tryz.prog 66 #[v] w (TurnEnd w l) := by
  have CB := Lib.hid (bookCheck_any v l w hl)
  have HH := Lib.hid h
  have q : (chkE l != 0) = true := bne_iff_ne.2 h
  clear h hl
  have HE : Hid (∃ E, chkE l = E) := ⟨_, rfl⟩
  go_enter Tryz.func66, Tryz.ntmps66
  go_wp2_with (go_at_call 68; (with_reducible refine CB.out.mono ?_); rintro e w1 ⟨rfl, g1⟩)
  go_ret2
  exact ⟨g1.kpt, .inl ⟨HH.out, rfl⟩⟩

theorem half_step {w : World} {base blk cap : Nat} {l : List (Int × Int × Int)} {k : Nat} (hk : k < l.length) (h : OwnsP w base (.slice (some ⟨blk, 0, none⟩) l.length cap) (halfT l k)) :
    OwnsP (w.setCell ⟨blk, k * 3 + 2, none⟩ (.int .i64 (-((halfT l k).getD k default).2.2))) base (.slice (some ⟨blk, 0, none⟩) l.length cap) (halfT l (k + 1)) := by
  have := h.put k (by rw [halfT_len]; exact hk) (-((halfT l k).getD k default).2.2)
  rw [halfT_at l k hk] at this ⊢
  rw [← halfT_set l k hk]
  exact this

set_option maxRecDepth 100000 in
set_option maxHeartbeats 2000000 in
theorem turn_ok (v : Value) (l : List (Int × Int × Int)) (w : World) (hl : ReadsP w v l) (h : chkE l = 0) : Calls Tryz.prog 66 #[v] w (TurnEnd w l) := by
  have CB := Lib.hid (h ▸ bookCheck_any v l w hl)
  obtain ⟨l0, l1, lp, -⟩ := chk_0 h
  have RL := Lib.hid hl
  have HH := Lib.hid h
  have LP := Lib.hid lp
  clear h hl lp
  go_enter Tryz.func66, Tryz.ntmps66
  go_wp2_with (first
    | (go_at_call 68; (with_reducible refine CB.out.mono ?_); rintro e w1 ⟨rfl, g1⟩)
    | (go_at_call 86; (with_reducible refine (clone_run v l _ (RL.out.grew g1) l0 (by omega)).mono ?_); rintro e w2 ⟨blk, cap, rfl, ho, k2⟩; have HO := Lib.hid ho; have K2 := Lib.hid (ktr g1.kpt k2); have S1 := Lib.hid g1.kpt.size; clear ho k2)
    | (go_at_call 115; (with_reducible refine (reverse_run _ _ blk cap l HO.out (by omega)).mono ?_); rintro e w3 ⟨rfl, ho3, hg3⟩; have HO3 := Lib.hid ho3; have K3 := Lib.hid (kpt_grown' K2.out hg3 HO.out S1.out); clear ho3 hg3))
  have Z1 := Lib.hid (show w.heap.size ≤ blk from Nat.le_trans S1.out (HO.out.ge blk rfl))
  go_loopw [18] (fun i wr => ∃ k : Nat, k ≤ l.length ∧ i = .int .i64 k ∧ Hid (OwnsP wr w.heap.size (.slice (some ⟨blk, 0, none⟩) l.length cap) (halfT l k)) ∧ Hid (Kpt w wr)) (fun i _ => l.length - (intOf i).toNat)
  case atStart => exact ⟨0, Nat.zero_le _, rfl, (by unfold Hid halfT; rw [List.take_zero, List.drop_zero]; exact HO3.out.base S1.out), K3.out⟩
  case round =>
    obtain ⟨k, hk, rfl, HW, HK⟩ := hrel
    by_cases hlt : k < l.length
    · obtain ⟨⟨c0, c1, c2⟩, f2⟩ := HW.out.at_ k (by rw [halfT_len]; exact hlt)
      have hx : ptB ((halfT l k).getD k default) = true := by
        rw [halfT_at l k hlt]
        exact LP.out _ (List.mem_reverse.1 (getP_mem (by simpa using hlt)))
      have hb := pt_t hx
      have HN := Lib.hid (fun (_ : True) => half_step hlt HW.out)
      generalize (halfT l k).getD k default = p at *
      obtain ⟨p0, p1, p2⟩ := p
      obtain ⟨-, -, -, -, -, n0, n1⟩ := hb
      simp only at c0 c1 c2 n0 n1
      clear hx
      go_wp2
      go_roundw
      case rel => exact ⟨k + 1, by omega, by go_num, HN.out trivial, HK.out.setCell Z1.out _⟩
      case measure => simp [intOf]; omega
    · obtain rfl : k = l.length := by omega
      have e : halfT l l.length = turnP l := by
        unfold halfT turnP
        rw [List.take_of_length_le (by simp), List.drop_eq_nil_of_le (by simp), List.append_nil]
      rw [e] at HW
      clear e
      go_wp2
      go_ret2
      exact ⟨HK.out, .inr ⟨HH.out, _, _, HW.out, rfl⟩⟩

theorem turn_any (v : Value) (l : List (Int × Int × Int)) (w : World) (hl : ReadsP w v l) : Calls Tryz.prog 66 #[v] w (TurnEnd w l) := by
  by_cases h : chkE l = 0
  · exact turn_ok v l w hl h
  · exact turn_bad v l w hl h

end Go.Proofs.YthaahebggboliaaGreat

-- BookM
namespace Go.Proofs.YthaahebggboliaaGreat
open Go.RowKit
set_option linter.unusedVariables false

/-- the amount of the first line of an account and a unit -/
def balF : List (Int × Int × Int) → Int → Int → Int
  | [], _, _ => 0
  | p :: l, a, u => if p.1 = a ∧ p.2.1 = u then p.2.2 else balF l a u
theorem bal_sum {b : Int} {l : List (Int × Int × Int)} (h : Strict b l) (a u : Int) : balF l a u = sumAt l a u := by
  induction l generalizing b with
  | nil => rfl
  | cons p l ih =>
    unfold balF sumAt
    by_cases hq : p.1 = a ∧ p.2.1 = u
    · rw [if_pos hq, if_pos hq]
      have : sumAt l a u = 0 := sumAt_none fun q hq' e => by
        have := strict_lo h.2.2 q hq'
        unfold plc at this
        rw [e.1, e.2, hq.1, hq.2] at this
        omega
      omega
    · rw [if_neg hq, if_neg hq, ih h.2.2]; omega
/-- what Balance answers -/
def balE (l : List (Int × Int × Int)) (a u : Int) : Int := if linE l ≠ 0 then linE l else if plB a u then 0 else 3
def balR (l : List (Int × Int × Int)) (a u : Int) : Int := if balE l a u = 0 then balF l a u else 0

def BalIs (l : List (Int × Int × Int)) (a u : Int) (w : World) (e : Ending) (w' : World) : Prop := e = .returned (.tuple #[.int .i64 (balR l a u), .int .i64 (balE l a u)]) ∧ Grew w w'

theorem balance_bad (v : Value) (l : List (Int × Int × Int)) (a u : Int) (w : World) (hl : ReadsP w v l) (h : linE l ≠ 0) : Calls Tryz.prog 29 #[v, .int .i64 a, .int .i64 u] w (BalIs l a u w) := by
  have LB := Lib.hid (lines_any v l w hl)
  have he : balE l a u = linE l := by unfold balE; rw [if_pos h]
  have HE := Lib.hid he
  have HR : Hid (balR l a u = 0) := by unfold Hid balR; rw [he, if_neg h]
  have q : (linE l != 0) = true := bne_iff_ne.2 h
  clear h hl he
  generalize linE l = E at *
  go_enter Tryz.func29, Tryz.ntmps29
  go_wp2_with (go_at_call 57; (with_reducible refine LB.out.mono ?_); rintro e w1 ⟨rfl, g1⟩)
  go_ret2
  exact ⟨ret_tup2 HR.out.symm HE.out.symm, g1⟩

theorem balance_rng (v : Value) (l : List (Int × Int × Int)) (a u : Int) (w : World) (hl : ReadsP w v l) (h : linE l = 0) (hp : plB a u = false) : Calls Tryz.prog 29 #[v, .int .i64 a, .int .i64 u] w (BalIs l a u w) := by
  have LB := Lib.hid (h ▸ lines_any v l w hl)
  have PB := Lib.hid (fun w => hp ▸ isPlace_any a u w)
  have he : balE l a u = 3 := by unfold balE; rw [if_neg (by simpa using h), hp]; rfl
  have HE := Lib.hid he
  have HR : Hid (balR l a u = 0) := by unfold Hid balR; rw [he, if_neg (by decide)]
  clear h hl he hp
  go_enter Tryz.func29, Tryz.ntmps29
  go_wp2_with (first
    | (go_at_call 57; (with_reducible refine LB.out.mono ?_); rintro e w1 ⟨rfl, g1⟩)
    | (go_at_call 72; (with_reducible refine (PB.out _).mono ?_); rintro e w2 ⟨rfl, rfl⟩))
  go_ret2
  exact ⟨ret_tup2 HR.out.symm HE.out.symm, g1⟩

theorem bal_here {p : Int × Int × Int} {l : List (Int × Int × Int)} {a u : Int} (h1 : p.1 = a) (h2 : p.2.1 = u) : balF (p :: l) a u = p.2.2 := by unfold balF; rw [if_pos ⟨h1, h2⟩]
theorem bal_next {p : Int × Int × Int} {l : List (Int × Int × Int)} {a u : Int} (h : ¬ (p.1 = a ∧ p.2.1 = u)) : balF (p :: l) a u = balF l a u := by rw [balF, if_neg h]

set_option maxHeartbeats 1000000 in
theorem balance_some (b off cap : Nat) (l : List (Int × Int × Int)) (a u : Int) (w : World) (hl : ReadsP w (.slice (some ⟨b, off, none⟩) l.length cap) l) (hc : ∀ j, j < l.length → PtAt w b (off + j * 3) (l.getD j default)) (h : linE l = 0) (hp : plB a u = true) :
    Calls Tryz.prog 29 #[.slice (some ⟨b, off, none⟩) l.length cap, .int .i64 a, .int .i64 u] w (BalIs l a u w) := by
  have LB := Lib.hid (h ▸ lines_any _ l w hl)
  have PB := Lib.hid (fun w => hp ▸ isPlace_any a u w)
  have he : balE l a u = 0 := by unfold balE; rw [if_neg (by simpa using h), hp]; rfl
  have HE := Lib.hid he
  have HR : Hid (balR l a u = balF l a u) := by unfold Hid balR; rw [he, if_pos rfl]
  have l4 := (lin_0 h).1
  have HC := Lib.hid hc
  clear h hl he hp hc
  go_enter Tryz.func29, Tryz.ntmps29
  go_wp2_with (first
    | (go_at_call 57; (with_reducible refine LB.out.mono ?_); rintro e w1 ⟨rfl, g1⟩; have G1 := Lib.hid g1; clear g1)
    | (go_at_call 72; (with_reducible refine (PB.out _).mono ?_); rintro e w2 ⟨rfl, rfl⟩))
  go_loopw [22] (fun i wr => ∃ k : Nat, k ≤ l.length ∧ i = .int .i64 k ∧ Hid (balF l a u = balF (l.drop k) a u) ∧ Hid (Grew w wr)) (fun i _ => l.length - (intOf i).toNat)
  case atStart => exact ⟨0, Nat.zero_le _, rfl, rfl, G1.out⟩
  case round =>
    obtain ⟨k, hk, rfl, HA, HG⟩ := hrel
    by_cases hlt : k < l.length
    · obtain ⟨c0, c1, c2⟩ := (HC.out k hlt).grew HG.out
      have hd := drop_getD hlt
      generalize l.getD k default = p at c0 c1 c2 hd
      have HD : Hid (balF l a u = balF (p :: l.drop (k + 1)) a u) := by unfold Hid; rw [HA.out, hd]
      clear hd
      obtain ⟨A, U, N⟩ := p
      simp only at c0 c1 c2
      by_cases h1 : A = a
      · by_cases h2 : U = u
        · have HX := Lib.hid (bal_here (p := (A, U, N)) (l := l.drop (k + 1)) h1 h2)
          have q1 : (A == a) = true := beq_iff_eq.2 h1
          have q2 : (U == u) = true := beq_iff_eq.2 h2
          clear h1 h2
          go_wp2
          go_ret2
          exact ⟨ret_tup2 (by rw [HR.out, HD.out, HX.out]) HE.out.symm, HG.out.alloc _ _⟩
        · have HX := Lib.hid (bal_next (p := (A, U, N)) (l := l.drop (k + 1)) (a := a) (u := u) (fun q => h2 q.2))
          have q1 : (A == a) = true := beq_iff_eq.2 h1
          have q2 : (U == u) = false := beq_eq_false_iff_ne.2 h2
          clear h1 h2
          go_wp2
          go_roundw
          case rel => exact ⟨k + 1, by omega, by go_num, by unfold Hid; rw [HD.out, HX.out], HG.out.alloc _ _⟩
          case measure => simp [intOf]; omega
      · have HX := Lib.hid (bal_next (p := (A, U, N)) (l := l.drop (k + 1)) (a := a) (u := u) (fun q => h1 q.1))
        have q1 : (A == a) = false := beq_eq_false_iff_ne.2 h1
        clear h1
        go_wp2
        go_roundw
        case rel => exact ⟨k + 1, by omega, by go_num, by unfold Hid; rw [HD.out, HX.out], HG.out.alloc _ _⟩
        case measure => simp [intOf]; omega
    · have hd : l.drop k = [] := List.drop_eq_nil_of_le (by omega)
      have HZ : Hid (balF l a u = 0) := by unfold Hid; rw [HA.out, hd]; rfl
      clear hd
      go_wp2
      go_ret2
      exact ⟨ret_tup2 (by rw [HR.out, HZ.out]) HE.out.symm, HG.out⟩

theorem balance_none (x : Option Addr) (cap : Nat) (hx : x = none → cap = 0) (a u : Int) (w : World) (hp : plB a u = true) : Calls Tryz.prog 29 #[.slice x 0 cap, .int .i64 a, .int .i64 u] w (BalIs [] a u w) := by
  have LB := Lib.hid (lines_none x cap w)
  have PB := Lib.hid (fun w => hp ▸ isPlace_any a u w)
  have he : balE [] a u = 0 := by unfold balE; rw [if_neg (by decide), hp]; rfl
  have HE := Lib.hid he
  have HR : Hid (balR [] a u = 0) := by unfold Hid balR; rw [he, if_pos rfl]; rfl
  clear he hp hx
  go_enter Tryz.func29, Tryz.ntmps29
  go_wp2_with (first
    | (go_at_call 57; (with_reducible refine LB.out.mono ?_); rintro e w1 ⟨rfl, g1⟩)
    | (go_at_call 72; (with_reducible refine (PB.out _).mono ?_); rintro e w2 ⟨rfl, rfl⟩))
  go_loop [22] (fun i => i = .int .i64 0) (fun _ => 0)
  case atStart => exact rfl
  case round =>
    obtain rfl := hrel
    go_wp2
    go_ret2
    exact ⟨ret_tup2 HR.out.symm HE.out.symm, g1⟩

theorem balance_any (v : Value) (l : List (Int × Int × Int)) (a u : Int) (w : World) (hl : ReadsP w v l) : Calls Tryz.prog 29 #[v, .int .i64 a, .int .i64 u] w (BalIs l a u w) := by
  by_cases h : linE l = 0
  · cases hp : plB a u with
    | false => exact balance_rng v l a u w hl h hp
    | true =>
      have hl0 := hl
      obtain ⟨x, c, e, hx, -⟩ := id hl
      rcases hl.cell with ⟨rfl, a', cap, rfl⟩ | ⟨_, b, off, cap, rfl, hc⟩
      · injection e with e1 e2 e3
        subst e1; subst e3
        exact balance_none _ _ hx a u w hp
      · exact balance_some b off cap l a u w hl0 hc h hp
  · exact balance_bad v l a u w hl h

end Go.Proofs.YthaahebggboliaaGreat

-- BookN
namespace Go.Proofs.YthaahebggboliaaGreat
open Go.RowKit
set_option linter.unusedVariables false

theorem post_neq (a b c d e f : Int) (w : World) : (binOp .neq 55 (.agg #[.int .i64 a, .int .i64 b, .int .i64 c]) (.agg #[.int .i64 d, .int .i64 e, .int .i64 f])).run Tryz.prog w = .ok (.bool (!decide ((a, b, c) = (d, e, f)))) w := by
  have u3 := Tryz.underlying3
  have hS : Tryz.prog.underlying 55 = some (.struct (Tryz.prog.fieldsOf 55)) := by kernel_rfl
  have hp : Tryz.prog.stoodInHeld 55 = false := by kernel_rfl
  have a3 : ∀ w, (isAgg 3).run Tryz.prog w = .ok false w := fun w => by kernel_rfl
  have h : ∀ w, (Op.equalIn (9999 + 1) 55 (.agg #[.int .i64 a, .int .i64 b, .int .i64 c]) (.agg #[.int .i64 d, .int .i64 e, .int .i64 f])).run Tryz.prog w = .ok (decide ((a, b, c) = (d, e, f))) w := fun w => by
    rw [run_equalIn_agg w 9999 55 _ _ hS hp]
    simp only [Program.fieldsOf, Tryz.underlying55]
    go_simp
    by_cases h1 : a = d <;> by_cases h2 : b = e <;> by_cases h3 : c = f <;> simp [h1, h2, h3]
  simp only [binOp, Op.equal, Op.maxDepth, Sem.run_bind]
  rw [show (10000 : Nat) = 9999 + 1 from rfl, h]
  simp

theorem same_len (a1 a2 : Option Addr) (n1 n2 c1 c2 : Nat) (w : World) (h : n1 ≠ n2) : Calls Tryz.prog 19 #[.slice a1 n1 c1, .slice a2 n2 c2] w fun e w' => e = .returned (.bool false) ∧ Kpt w w' := by
  have q : ((n1 : Int) != (n2 : Int)) = true := bne_iff_ne.2 (by omega)
  go_enter Tryz.func19, Tryz.ntmps19
  go_wp2
  go_ret
  exact ⟨rfl, Kpt.refl _⟩

theorem same_none (a1 a2 : Option Addr) (c1 c2 : Nat) (w : World) : Calls Tryz.prog 19 #[.slice a1 0 c1, .slice a2 0 c2] w fun e w' => e = .returned (.bool true) ∧ Kpt w w' := by
  go_enter Tryz.func19, Tryz.ntmps19
  go_wp2
  go_loop [5] (fun i => i = .int .i64 0) (fun _ => 0)
  case atStart => exact rfl
  case round =>
    obtain rfl := hrel
    go_wp2
    go_ret
    exact ⟨rfl, Kpt.refl _⟩

set_option maxHeartbeats 1000000 in
theorem same_some (b1 o1 c1 b2 o2 c2 : Nat) (ps : List (Int × Int × Int)) (w : World) (hm : ps.length ≤ maxLen) (h1 : ∀ j, j < ps.length → PtAt w b1 (o1 + j * 3) (ps.getD j default)) (h2 : ∀ j, j < ps.length → PtAt w b2 (o2 + j * 3) (ps.getD j default)) :
    Calls Tryz.prog 19 #[.slice (some ⟨b1, o1, none⟩) ps.length c1, .slice (some ⟨b2, o2, none⟩) ps.length c2] w fun e w' => e = .returned (.bool true) ∧ Kpt w w' := by
  unfold maxLen at hm
  have H1 := Lib.hid h1; have H2 := Lib.hid h2
  clear h1 h2
  go_enter Tryz.func19, Tryz.ntmps19
  go_wp2
  go_loopw [5] (fun i wr => ∃ k : Nat, k ≤ ps.length ∧ i = .int .i64 k ∧ Hid (Kpt w wr)) (fun i _ => ps.length - (intOf i).toNat)
  case atStart => exact ⟨0, Nat.zero_le _, rfl, Kpt.refl _⟩
  case round =>
    obtain ⟨k, hk, rfl, HK⟩ := hrel
    by_cases hlt : k < ps.length
    · obtain ⟨c0, c1, c2⟩ := (H1.out k hlt).kpt HK.out
      obtain ⟨d0, d1, d2⟩ := (H2.out k hlt).kpt HK.out
      generalize ps.getD k default = p at c0 c1 c2 d0 d1 d2
      obtain ⟨A, U, N⟩ := p
      simp only at c0 c1 c2 d0 d1 d2
      have qn := post_neq A U N A U N
      rw [decide_eq_true rfl, Bool.not_true] at qn
      have b0 : (0 : Int) ≤ (k : Int) := by omega
      have b1 : (k : Int) < (ps.length : Int) := by omega
      go_wp2
      go_quiet (fail)
      go_wp2
      go_roundw
      case rel => exact ⟨k + 1, by omega, by go_num, Kpt.drewN HK.out _⟩
      case measure => simp [intOf]; omega
    · go_wp2
      go_ret
      exact ⟨rfl, HK.out⟩

theorem same_any (v u : Value) (ps : List (Int × Int × Int)) (w : World) (h1 : ReadsP w v ps) (h2 : ReadsP w u ps) : Calls Tryz.prog 19 #[v, u] w fun e w' => e = .returned (.bool true) ∧ Kpt w w' := by
  have hm := h1.len
  rcases h1.cell with ⟨rfl, a, c, rfl⟩ | ⟨h0, b1, o1, c1, rfl, k1⟩
  · rcases h2.cell with ⟨_, a', c', rfl⟩ | ⟨h0, _⟩
    · exact same_none a a' c c' w
    · simp at h0
  · rcases h2.cell with ⟨e, _⟩ | ⟨_, b2, o2, c2, rfl, k2⟩
    · rw [e] at h0; simp at h0
    · exact same_some b1 o1 c1 b2 o2 c2 ps w hm k1 k2

end Go.Proofs.YthaahebggboliaaGreat

-- BookP
namespace Go.Proofs.YthaahebggboliaaGreat
open Go.RowKit
set_option linter.unusedVariables false

theorem post_ext3 {p q : Int × Int × Int} (h1 : p.1 = q.1) (h2 : p.2.1 = q.2.1) (h3 : p.2.2 = q.2.2) : p = q := by
  obtain ⟨a, b, c⟩ := p; obtain ⟨d, e, f⟩ := q; simp_all
/-- the line of a place in a strict list is all that the place has -/
theorem sumAt_mem {b : Int} {R : List (Int × Int × Int)} (h : Strict b R) {p : Int × Int × Int} (hp : p ∈ R) : sumAt R p.1 p.2.1 = p.2.2 := by
  induction R generalizing b with
  | nil => simp at hp
  | cons q l ih =>
    unfold sumAt
    rcases List.mem_cons.1 hp with rfl | hp
    · rw [if_pos ⟨rfl, rfl⟩]
      have : sumAt l p.1 p.2.1 = 0 := sumAt_none fun r hr e => by
        have := strict_lo h.2.2 r hr
        unfold plc at this
        rw [e.1, e.2] at this
        omega
      omega
    · rw [ih h.2.2 hp, if_neg, Int.zero_add]
      intro e
      have := strict_lo h.2.2 p hp
      unfold plc at this
      rw [← e.1, ← e.2] at this
      omega
/-- a list is a book of postings: what is to be looked at -/
theorem isBook_mk {R T : List (Int × Int × Int)} (hs : Strict (-1) R) (h1 : ∀ p ∈ R, p.2.2 = sumAt T p.1 p.2.1) (h2 : ∀ q ∈ T, sumAt T q.1 q.2.1 ≠ 0 → ∃ r ∈ R, r.1 = q.1 ∧ r.2.1 = q.2.1) : IsBook R T := by
  refine ⟨hs, fun p => ⟨fun hp => ⟨strict_pt hs p hp, h1 p hp⟩, fun ⟨hb, hp⟩ => ?_⟩⟩
  have hz := (pt_t hb).2.2.2.2.1
  have : ∃ q ∈ T, q.1 = p.1 ∧ q.2.1 = p.2.1 := Classical.byContradiction fun hn => by
    have := sumAt_none (l := T) (a := p.1) (u := p.2.1) fun q hq e => hn ⟨q, hq, e⟩
    omega
  obtain ⟨q, hq, e1, e2⟩ := this
  obtain ⟨r, hr, f1, f2⟩ := h2 q hq (by rw [e1, e2]; omega)
  have := h1 r hr
  rw [f1, f2, e1, e2] at this
  have e : r = p := post_ext3 (f1.trans e1) (f2.trans e2) (by omega)
  exact e ▸ hr
theorem isBook_self {b : List (Int × Int × Int)} (h : Strict (-1) b) : IsBook b b :=
  isBook_mk h (fun p hp => (sumAt_mem h hp).symm) fun q hq _ => ⟨q, hq, rfl, rfl⟩
theorem isBook_congr {R T T' : List (Int × Int × Int)} (h : IsBook R T) (e : ∀ a u, sumAt T a u = sumAt T' a u) : IsBook R T' := ⟨h.strict, fun p => by rw [h.mem, e]⟩
/-- each place has in a book what was posted to it -/
theorem sumAt_book {R T : List (Int × Int × Int)} (h : IsBook R T) (hT : ∀ p ∈ T, ptB p = true) (ha : ∀ a u, amtB (sumAt T a u) = true) (a u : Int) : sumAt R a u = sumAt T a u := by
  by_cases hz : sumAt T a u = 0
  · rw [hz]
    refine sumAt_none fun q hq e => ?_
    have := (h.mem q).1 hq
    rw [e.1, e.2, hz] at this
    exact (pt_t this.1).2.2.2.2.1 this.2
  · have hq : ∃ q ∈ T, q.1 = a ∧ q.2.1 = u := Classical.byContradiction fun hn => hz (sumAt_none fun q hq e => hn ⟨q, hq, e⟩)
    obtain ⟨q, hq, rfl, rfl⟩ := hq
    have hb := pt_t (hT q hq)
    have hm : (q.1, q.2.1, sumAt T q.1 q.2.1) ∈ R := (h.mem _).2 ⟨pt_mk ⟨hb.1, hb.2.1, hb.2.2.1, hb.2.2.2.1, hz, amt_t (ha _ _)⟩, rfl⟩
    exact sumAt_mem h.strict hm

/-- the amounts of a unit, account by account -/
def accS (T : List (Int × Int × Int)) (u : Nat) : Nat → Int
  | 0 => 0
  | n + 1 => accS T u n + sumAt T (n : Int) (u : Int)
theorem accS_cons (p : Int × Int × Int) (T : List (Int × Int × Int)) (u n : Nat) : accS (p :: T) u n = (if p.2.1 = (u : Int) ∧ 0 ≤ p.1 ∧ p.1 < (n : Int) then p.2.2 else 0) + accS T u n := by
  induction n with
  | zero => simp only [accS]; rw [if_neg (by omega)]; omega
  | succ n ih =>
    simp only [accS, ih, sumAt]
    by_cases h1 : p.1 = (n : Int) ∧ p.2.1 = (u : Int)
    · rw [if_pos h1, if_neg (by omega), if_pos (by omega)]; omega
    · rw [if_neg h1]
      by_cases h2 : p.2.1 = (u : Int) ∧ 0 ≤ p.1 ∧ p.1 < (n : Int)
      · rw [if_pos h2, if_pos (by omega)]; omega
      · rw [if_neg h2, if_neg (by omega)]; omega
theorem accS_unit {T : List (Int × Int × Int)} (h : ∀ p ∈ T, ptB p = true) (u : Nat) : accS T u 101 = unitS T u := by
  induction T with
  | nil =>
    have : ∀ n, accS [] u n = 0 := fun n => by induction n with
      | zero => rfl
      | succ n ih => simp [accS, ih, sumAt]
    rw [this]; rfl
  | cons p l ih =>
    have hb := pt_t (h p (by simp))
    rw [accS_cons, ih fun q hq => h q (by simp [hq]), unitS]
    by_cases e : p.2.1 = (u : Int)
    · rw [if_pos (by omega), if_pos e]
    · rw [if_neg (by omega), if_neg e]
theorem accS_congr {S T : List (Int × Int × Int)} (h : ∀ a u, sumAt S a u = sumAt T a u) (u n : Nat) : accS S u n = accS T u n := by
  induction n with
  | zero => rfl
  | succ n ih => simp only [accS, ih, h]
theorem unitS_congr {S T : List (Int × Int × Int)} (hS : ∀ p ∈ S, ptB p = true) (hT : ∀ p ∈ T, ptB p = true) (h : ∀ a u, sumAt S a u = sumAt T a u) (u : Nat) : unitS S u = unitS T u := by
  rw [← accS_unit hS, ← accS_unit hT, accS_congr h]
theorem evn_append {S T : List (Int × Int × Int)} (hS : evnB S = true) (hT : evnB T = true) : evnB (S ++ T) = true := evn_mk fun u hu => by
  rw [unitS_append, evn_t hS u hu, evn_t hT u hu]; rfl

/-- all that is known behind a post that went -/
structure Posted (b l R : List (Int × Int × Int)) : Prop where
  lin : linE b = 0
  chk : chkE l = 0
  amt : ∀ a u, amtB (sumAt (b ++ l) a u) = true
  book : IsBook R (b ++ l)
  few : R.length ≤ 400
theorem pts_both {b l : List (Int × Int × Int)} (h0 : linE b = 0) (h1 : chkE l = 0) : ∀ p ∈ b ++ l, ptB p = true := fun p hp => by
  rcases List.mem_append.1 hp with h | h
  · exact strict_pt (lin_0 h0).2.1 p h
  · exact (chk_0 h1).2.2.1 p h
theorem Posted.sum {b l R : List (Int × Int × Int)} (h : Posted b l R) (a u : Int) : sumAt R a u = sumAt b a u + sumAt l a u := by
  rw [sumAt_book h.book (pts_both h.lin h.chk) h.amt, sumAt_append]
theorem Posted.lines {b l R : List (Int × Int × Int)} (h : Posted b l R) : linE R = 0 := by
  refine lin_mk h.few h.book.strict (evn_mk fun u hu => ?_)
  rw [unitS_congr (strict_pt h.book.strict) (pts_both h.lin h.chk) (sumAt_book h.book (pts_both h.lin h.chk) h.amt)]
  exact evn_t (evn_append (lin_0 h.lin).2.2 (chk_0 h.chk).2.2.2) u hu
/-- what an answer of Post can be -/
theorem post_cases {b l R : List (Int × Int × Int)} {E : Int} (h : PostRes b l R E) : (E ≠ 0 ∧ R = []) ∨ (E = 0 ∧ Posted b l R) := by
  rcases h with ⟨h1, h2, h3⟩ | ⟨h0, h1, h2, h3⟩ | ⟨h0, h1, h2⟩
  · exact .inl ⟨by omega, h3⟩
  · exact .inl ⟨by omega, h3⟩
  · rcases h2 with ⟨h2, h3, _⟩ | ⟨ha, L, hB, ⟨_, h3, h4⟩ | ⟨h5, h3, rfl⟩⟩
    · exact .inl ⟨by omega, h3⟩
    · exact .inl ⟨by omega, h4⟩
    · exact .inr ⟨h3, h0, h1, ha, hB, h5⟩
/-- a post of which the book is known -/
theorem post_known {b l R R' : List (Int × Int × Int)} {E : Int} (h : PostRes b l R E) (k : Posted b l R') : E = 0 ∧ R = R' := by
  rcases h with ⟨h1, _⟩ | ⟨_, h1, _⟩ | ⟨_, _, h2⟩
  · exact absurd k.lin h1
  · exact absurd k.chk h1
  · rcases h2 with ⟨_, _, a, u, h3⟩ | ⟨ha, L, hB, h3⟩
    · rw [k.amt a u] at h3; cases h3
    · have e : L = R' := book_ext hB k.book fun _ _ => rfl
      have := k.few
      rcases h3 with ⟨h5, _⟩ | ⟨_, h4, h5⟩
      · rw [e] at h5; omega
      · exact ⟨h4, h5.trans e⟩
/-- a post that can only fail by size -/
theorem post_size {b l R : List (Int × Int × Int)} {E : Int} (h : PostRes b l R E) (h0 : linE b = 0) (h1 : chkE l = 0) : (E = 8 ∧ R = []) ∨ (E = 2 ∧ R = []) ∨ (E = 0 ∧ Posted b l R) := by
  rcases h with ⟨h2, _⟩ | ⟨_, h2, _⟩ | ⟨_, _, h2⟩
  · exact absurd h0 h2
  · exact absurd h1 h2
  · rcases h2 with ⟨h2, h3, _⟩ | ⟨ha, L, hB, ⟨_, h3, h4⟩ | ⟨h5, h3, rfl⟩⟩
    · exact .inl ⟨h2, h3⟩
    · exact .inr (.inl ⟨h3, h4⟩)
    · exact .inr (.inr ⟨h3, h0, h1, ha, hB, h5⟩)

/-- turned back -/
theorem neg_pt {p : Int × Int × Int} (h : ptB p = true) : ptB (negP p) = true := by
  have := pt_t h
  exact pt_mk ⟨this.1, this.2.1, this.2.2.1, this.2.2.2.1, by unfold negP; simp; omega, by unfold negP; simp; omega, by unfold negP; simp; omega⟩
theorem turn_pt {l : List (Int × Int × Int)} (h : ∀ p ∈ l, ptB p = true) : ∀ p ∈ turnP l, ptB p = true := fun p hp => by
  unfold turnP at hp
  obtain ⟨q, hq, rfl⟩ := List.mem_map.1 hp
  exact neg_pt (h q (List.mem_reverse.1 hq))
theorem sumAt_neg (l : List (Int × Int × Int)) (a u : Int) : sumAt (l.map negP) a u = -sumAt l a u := by
  induction l with
  | nil => rfl
  | cons p l ih =>
    rw [List.map_cons, sumAt, sumAt, ih]
    unfold negP
    simp only
    split <;> omega
theorem sumAt_turn (l : List (Int × Int × Int)) (a u : Int) : sumAt (turnP l) a u = -sumAt l a u := by
  unfold turnP
  rw [sumAt_neg, sumAt_perm (List.reverse_perm l)]
theorem turn_turn (l : List (Int × Int × Int)) : turnP (turnP l) = l := by
  unfold turnP
  rw [← List.map_reverse, List.reverse_reverse, List.map_map]
  have : negP ∘ negP = id := by funext p; simp [negP]
  rw [this, List.map_id]
theorem turn_len (l : List (Int × Int × Int)) : (turnP l).length = l.length := by simp [turnP]
theorem turn_chk {l : List (Int × Int × Int)} (h : chkE l = 0) : chkE (turnP l) = 0 := by
  obtain ⟨h0, h1, h2, h3⟩ := chk_0 h
  refine chk_mk (by rw [turn_len]; exact h0) (by rw [turn_len]; exact h1) (turn_pt h2) (evn_mk fun u hu => ?_)
  have e : ∀ a u, sumAt (turnP l ++ l) a u = sumAt [] a u := fun a u => by rw [sumAt_append, sumAt_turn]; simp only [sumAt]; omega
  have := unitS_congr (S := turnP l ++ l) (T := []) (fun p hp => by
    rcases List.mem_append.1 hp with h | h
    · exact turn_pt h2 p h
    · exact h2 p h) (by simp) e u
  rw [unitS_append, evn_t h3 u hu] at this
  simpa [unitS] using this
theorem Posted.back {b l R : List (Int × Int × Int)} (h : Posted b l R) : Posted R (turnP l) b := by
  have e : ∀ a u, sumAt (R ++ turnP l) a u = sumAt b a u := fun a u => by rw [sumAt_append, sumAt_turn, h.sum]; omega
  have hs := (lin_0 h.lin).2.1
  refine ⟨h.lines, turn_chk h.chk, fun a u => ?_, isBook_congr (isBook_self hs) fun a u => (e a u).symm, (lin_0 h.lin).1⟩
  rw [e]
  by_cases hq : ∃ q ∈ b, q.1 = a ∧ q.2.1 = u
  · obtain ⟨q, hq, rfl, rfl⟩ := hq
    rw [sumAt_mem hs hq]
    exact amt_mk (pt_t (strict_pt hs q hq)).2.2.2.2.2.1 (pt_t (strict_pt hs q hq)).2.2.2.2.2.2
  · rw [sumAt_none fun q hq' e => hq ⟨q, hq', e⟩]; decide
/-- in whichever order -/
theorem Posted.order {b l m x y p q : List (Int × Int × Int)} (hx : Posted b l x) (hy : Posted b m y) (hp : Posted x m p) (hq : Posted y l q) : p = q :=
  book_ext hp.book hq.book fun a u => by rw [sumAt_append, sumAt_append, hx.sum, hy.sum]; omega
/-- at once -/
theorem Posted.both {b l m x y : List (Int × Int × Int)} (hx : Posted b l x) (hy : Posted x m y) (hn : l.length + m.length ≤ 60) : Posted b (l ++ m) y := by
  obtain ⟨l0, l1, l2, l3⟩ := chk_0 hx.chk
  obtain ⟨m0, m1, m2, m3⟩ := chk_0 hy.chk
  have e : ∀ a u, sumAt (x ++ m) a u = sumAt (b ++ (l ++ m)) a u := fun a u => by rw [sumAt_append, sumAt_append, sumAt_append, hx.sum]; omega
  refine ⟨hx.lin, chk_mk (by simp; omega) (by simpa using hn) (fun p hp => ?_) (evn_append l3 m3), fun a u => ?_, isBook_congr hy.book e, hy.few⟩
  · rcases List.mem_append.1 hp with h | h
    · exact l2 p h
    · exact m2 p h
  · rw [← e]; exact hy.amt a u

/-- sums of few amounts are amounts -/
def absS (T : List (Int × Int × Int)) : Int := (T.map fun p => (p.2.2.natAbs : Int)).sum
theorem sumAt_abs (T : List (Int × Int × Int)) (a u : Int) : -(absS T) ≤ sumAt T a u ∧ sumAt T a u ≤ absS T := by
  induction T with
  | nil => exact ⟨Int.le_refl _, Int.le_refl _⟩
  | cons p l ih =>
    unfold absS at *
    simp only [List.map_cons, List.sum_cons, sumAt]
    split <;> omega
theorem posted_mk {b l R : List (Int × Int × Int)} (h0 : linE b = 0) (h1 : chkE l = 0) (ha : absS (b ++ l) ≤ 1000) (hs : ordE (-1) R = 0) (hn : R.length ≤ 400) (hm : ∀ p ∈ R, p.2.2 = sumAt (b ++ l) p.1 p.2.1) (hk : ∀ q ∈ b ++ l, sumAt (b ++ l) q.1 q.2.1 ≠ 0 → ∃ r ∈ R, r.1 = q.1 ∧ r.2.1 = q.2.1) : Posted b l R :=
  ⟨h0, h1, fun a u => by have := sumAt_abs (b ++ l) a u; exact amt_mk (by omega) (by omega), isBook_mk (ord_0.1 hs) hm hk, hn⟩

/-- the numbers of bookBegun -/
def L0 : List (Int × Int × Int) := [(2, 0, 5), (1, 0, -8), (3, 0, 3)]
def B0 : List (Int × Int × Int) := [(1, 0, -8), (2, 0, 5), (3, 0, 3)]
def T0 : List (Int × Int × Int) := [(3, 0, -3), (1, 0, 8), (2, 0, -5)]
theorem turn_L0 : turnP L0 = T0 := by decide
theorem chk_L0 : chkE L0 = 0 := by decide
theorem posted_0 : Posted [] L0 B0 := posted_mk (by decide) (by decide) (by decide) (by decide) (by decide) (by decide) (by decide)
theorem posted_1 : Posted B0 T0 [] := by have := posted_0.back; rwa [turn_L0] at this
theorem res_2 {R : List (Int × Int × Int)} {E : Int} (h : PostRes B0 (L0.take 2) R E) : E = 4 ∧ R = [] := by
  rcases h with ⟨h1, _⟩ | ⟨_, _, h2, h3⟩ | ⟨_, h1, _⟩
  · exact absurd (by decide) h1
  · rw [h2]; exact ⟨by decide, h3⟩
  · exact absurd h1 (by decide)

end Go.Proofs.YthaahebggboliaaGreat

-- CycV
namespace Go.Proofs.YthaahebggboliaaGreat
open Go.RowKit
set_option linter.unusedVariables false

theorem pst_posted {b l : List (Int × Int × Int)} (h : pstE b l = 0) : Posted b l (pstR b l) := by
  obtain ⟨h1, h2, h3, h4, h5⟩ := pst_0 h
  rw [h5]
  exact ⟨h1, h2, h3, mrg_book h3, h4⟩
theorem cpo_cases {b l : List (Int × Int × Int)} (h : cpoE b l = 0) : (l = [] ∧ cpoB b l = b) ∨ (l ≠ [] ∧ Posted b l (cpoB b l)) := by
  unfold cpoE at h
  unfold cpoB
  by_cases e : l = []
  · exact .inl ⟨e, by rw [if_pos e]⟩
  · rw [if_neg e] at h
    rw [if_neg e, if_pos h]
    exact .inr ⟨e, pst_posted h⟩
theorem cpo_lin {b l : List (Int × Int × Int)} (hb : linE b = 0) (h : cpoE b l = 0) : linE (cpoB b l) = 0 := by
  rcases cpo_cases h with ⟨_, e⟩ | ⟨_, p⟩
  · rw [e]; exact hb
  · exact p.lines
theorem cpo_pt {b l : List (Int × Int × Int)} (h : cpoE b l = 0) : ∀ p ∈ l, ptB p = true := by
  rcases cpo_cases h with ⟨rfl, _⟩ | ⟨_, p⟩
  · intro p hp; cases hp
  · exact (chk_0 p.chk).2.2.1
theorem cpo_sum {b l : List (Int × Int × Int)} (h : cpoE b l = 0) (a u : Int) : sumAt (cpoB b l) a u = sumAt b a u + sumAt l a u := by
  rcases cpo_cases h with ⟨rfl, e⟩ | ⟨_, p⟩
  · rw [e]; simp [sumAt]
  · exact p.sum a u
theorem cmP_cons {W : Int} {hs : List Int} {ts : List (List Int)} {ps : List Int} {X q : Int} {l : List Int} {fs : List (List Int)} : cmP W hs ts ps X q (l :: fs) = cmH W hs ts ps X q l ++ cmP W hs ts ps X q fs := by simp [cmP]
theorem cm_book {W : Int} {hs : List Int} {ts : List (List Int)} {ps : List Int} {X q : Int} : ∀ {fs : List (List Int)} {b : List (Int × Int × Int)}, linE b = 0 → cmE W hs ts ps X q fs b = 0 →
    linE (cmB W hs ts ps X q fs b) = 0 ∧ (∀ p ∈ cmP W hs ts ps X q fs, ptB p = true) ∧ ∀ a u, sumAt (cmB W hs ts ps X q fs b) a u = sumAt b a u + sumAt (cmP W hs ts ps X q fs) a u
  | [], b, hb, _ => ⟨hb, fun p hp => by simp [cmP] at hp, fun a u => by simp [cmP, cmB, sumAt]⟩
  | l :: fs, b, hb, h => by
    unfold cmE at h
    rw [cmP_cons]
    unfold cmB
    split at h
    · split at h
      · next h4 =>
        rw [if_pos h4]
        split at h
        · next h5 =>
          have e : cmH W hs ts ps X q l = cmL ps X l := if_pos h4
          rw [e]
          obtain ⟨i1, i2, i3⟩ := cm_book (cpo_lin hb h5) h
          refine ⟨i1, fun p hp => ?_, fun a u => ?_⟩
          · rcases List.mem_append.1 hp with hp | hp
            · exact cpo_pt h5 p hp
            · exact i2 p hp
          · rw [i3, cpo_sum h5, sumAt_append]; omega
        · next h5 => exact absurd h h5
      · next h4 =>
        rw [if_neg h4]
        have e : cmH W hs ts ps X q l = [] := if_neg h4
        rw [e, List.nil_append]
        exact cm_book hb h
    · next h1 => exact absurd h h1
theorem pn_cpo {W T : Int} {hs ps : List Int} {ts fs : List (List Int)} {b : List (Int × Int × Int)} (h : pnE W hs ts fs ps T b = 0) : cpoE b (pnL W hs ts fs ps T) = 0 := by
  unfold pnE at h
  unfold pnL
  split at h
  · split at h
    · next h5 => rw [if_neg (by omega)]; rfl
    · split at h
      · next h6 => rw [if_pos h6]; exact h
      · next h6 => exact absurd h h6
  · next h1 => exact absurd h h1
theorem nt_book {W X T : Int} {hs ps : List Int} {ts fs : List (List Int)} {b : List (Int × Int × Int)} (h : ntE W hs ts X fs ps T b = 0) : linE (nigB W hs ts X fs ps T b) = 0 ∧ (∀ p ∈ nigP W hs ts X fs ps T b, ptB p = true) ∧ ∀ a u, sumAt (nigB W hs ts X fs ps T b) a u = sumAt b a u + sumAt (nigP W hs ts X fs ps T b) a u := by
  obtain ⟨h1, h2, h3, h4, h5⟩ := nt_0 h
  have hp := pn_cpo h3
  have hb := (wld_0 h2).2.2
  have hB : linE (pnB W hs ts fs ps T b) = 0 := cpo_lin hb hp
  obtain ⟨i1, i2, i3⟩ := cm_book hB h4
  have e : nigP W hs ts X fs ps T b = pnL W hs ts fs ps T ++ cmP W hs ts ps X T fs := by unfold nigP; rw [cpoP_ok hp]
  rw [e]
  refine ⟨i1, fun p hp' => ?_, fun a u => ?_⟩
  · rcases List.mem_append.1 hp' with g | g
    · exact cpo_pt hp p g
    · exact i2 p g
  · show sumAt (cmB _ _ _ _ _ _ _ (pnB W hs ts fs ps T b)) a u = _
    rw [i3, show sumAt (pnB W hs ts fs ps T b) a u = _ from cpo_sum hp a u, sumAt_append]
    omega
theorem cmG_id {W : Int} {hs : List Int} {ts : List (List Int)} {q : Int} (l : List Int) : (cmG W hs ts q l).getD 0 0 = l.getD 0 0 := by
  unfold cmG
  split <;> rfl
theorem nt_checks {W X T : Int} {hs ps : List Int} {ts fs : List (List Int)} {b : List (Int × Int × Int)} (h0 : checksE fs = 0) (h : cmE W hs ts ps X T fs b = 0) : checksE (cmF W hs ts T fs) = 0 := by
  have hk := cm_0 h
  unfold checksE at h0 ⊢
  have e : (cmF W hs ts T fs).length = fs.length := by unfold cmF; rw [List.length_map]
  rw [e]
  split at h0
  · cases h0
  · next h6 =>
    rw [if_neg h6]
    obtain ⟨h1, h2, h3⟩ := ids_ok.1 h0
    refine ids_ok.2 ⟨fun l hl => ?_, ?_, fun l hl => by simp⟩
    · obtain ⟨m, hm, rfl⟩ := List.mem_map.1 hl
      exact (cmG_ok (hk m hm)).1
    · have e2 : idsOf (cmF W hs ts T fs) = idsOf fs := by
        unfold idsOf cmF
        rw [List.map_map]
        exact List.map_congr_left fun l _ => cmG_id l
      rw [e2]; exact h2
theorem ste_one {W : Int} {hs : List Int} {n : Int} (h : steE W hs n 1 = 0) : n < steR W hs n 1 ∧ 0 ≤ steR W hs n 1 ∧ steR W hs n 1 ≤ 3652058 := by
  rcases ste_cases W hs n 1 with ⟨_, _, _, _, _, _, r0, r1, c1⟩ | ⟨e, _⟩
  · refine ⟨?_, r0, r1⟩
    rcases c1 with ⟨p1, _⟩ | ⟨p1, l1, b1, k1⟩ | ⟨p1, _⟩ <;> omega
  · exact absurd h e
theorem nt_wld {W X T : Int} {hs ps : List Int} {ts fs : List (List Int)} {b : List (Int × Int × Int)} (h : ntE W hs ts X fs ps T b = 0) : wldE (steR W hs T 1) (cmF W hs ts T fs) (nigB W hs ts X fs ps T b) = 0 := by
  obtain ⟨h1, h2, h3, h4, h5⟩ := nt_0 h
  have hs1 := ste_one h5
  unfold wldE todE
  rw [if_pos ⟨hs1.2.1, hs1.2.2⟩, nt_checks (wld_0 h2).2.1 h4, (nt_book h).1]
  rfl
/-- a fail of which nothing is open, at whatever day: it costs nothing, nor is it paid for -/
theorem st_closed {W : Int} {hs tl l : List Int} {q : Int} (h : opL l = 0) : stL W hs tl l q ≠ 4 ∧ (stL W hs tl l q = 0 ∨ stL W hs tl l q = 5) := by
  have e : stL W hs tl l q = if lkL W hs tl l q = 0 then stgV (opL l) (l.getD 5 0) (dayAt W hs (l.getD 5 0) (tl.getD 0 0) (tl.getD 1 0) (tl.getD 2 0) 1) (dayAt W hs (l.getD 5 0) (tl.getD 0 0) (tl.getD 1 0) (tl.getD 2 0) 2) (dayAt W hs (l.getD 5 0) (tl.getD 0 0) (tl.getD 1 0) (tl.getD 2 0) 3) q else 0 := rfl
  rw [e]
  split
  · rw [show stgV (opL l) _ _ _ _ q = 5 by unfold stgV; rw [if_pos h]]
    omega
  · omega
theorem due_opn {W : Int} {hs : List Int} {ts : List (List Int)} {ps : List Int} {q : Int} : ∀ fs : List (List Int), dueL W hs ts ps q (opnF fs) = dueL W hs ts ps q fs
  | [] => rfl
  | l :: fs => by
    have ih := due_opn (W := W) (hs := hs) (ts := ts) (ps := ps) (q := q) fs
    unfold opnF at ih ⊢
    rw [List.filter_cons]
    by_cases h : opL l = 0
    · have c0 : csL W hs (tlOf ts l) l (prOf ps l) q = 0 := by unfold csL; rw [if_pos (st_closed h).2]
      rw [if_neg (by simp [h]), ih]
      show _ = if 0 < csL W hs (tlOf ts l) l (prOf ps l) q then _ else _
      rw [c0, if_neg (by omega)]
    · rw [if_pos (by simp [h])]
      show (if 0 < csL W hs (tlOf ts l) l (prOf ps l) q then _ else _) = if 0 < csL W hs (tlOf ts l) l (prOf ps l) q then _ else _
      rw [ih]
theorem pd_all {W : Int} {hs : List Int} {ts : List (List Int)} {q : Int} : ∀ {fs : List (List Int)}, (∀ l ∈ fs, lkL W hs (tlOf ts l) l q = 0) → pdE W hs ts q fs = 0
  | [], _ => rfl
  | l :: fs, h => by
    show orE (lkL W hs (tlOf ts l) l q) (pdE W hs ts q fs) = 0
    rw [h l (by simp), pd_all fun m hm => h m (by simp [hm])]
    rfl
theorem cm_opn {W : Int} {hs : List Int} {ts : List (List Int)} {ps : List Int} {X q : Int} : ∀ {fs : List (List Int)} {b : List (Int × Int × Int)}, (∀ l ∈ fs, lkL W hs (tlOf ts l) l q = 0) →
    cmE W hs ts ps X q (opnF fs) b = cmE W hs ts ps X q fs b ∧ cmB W hs ts ps X q (opnF fs) b = cmB W hs ts ps X q fs b ∧ cmP W hs ts ps X q (opnF fs) = cmP W hs ts ps X q fs
  | [], b, _ => ⟨rfl, rfl, rfl⟩
  | l :: fs, b, h => by
    have ih := fun b => cm_opn (W := W) (hs := hs) (ts := ts) (ps := ps) (X := X) (q := q) (fs := fs) (b := b) (fun m hm => h m (by simp [hm]))
    have h0 := h l (by simp)
    unfold opnF at ih ⊢
    rw [List.filter_cons]
    by_cases ho : opL l = 0
    · have n4 := (st_closed (W := W) (hs := hs) (tl := tlOf ts l) (q := q) ho).1
      rw [if_neg (by simp [ho]), (ih b).1, (ih b).2.1, (ih b).2.2]
      refine ⟨?_, ?_, ?_⟩
      · conv => rhs; unfold cmE
        rw [if_pos h0, if_neg n4]
      · conv => rhs; unfold cmB
        rw [if_neg n4]
      · rw [cmP_cons, show cmH W hs ts ps X q l = [] from if_neg n4, List.nil_append]
    · rw [if_pos (by simp [ho])]
      refine ⟨?_, ?_, ?_⟩
      · unfold cmE
        rw [(ih _).1, (ih b).1]
      · unfold cmB
        rw [(ih _).2.1, (ih b).2.1]
      · rw [cmP_cons, cmP_cons, (ih b).2.2]
/-- behind a night no fail's days are out of reach on another day -/
theorem lk_next {W X T q : Int} {hs ps : List Int} {ts fs : List (List Int)} {b : List (Int × Int × Int)} (h : cmE W hs ts ps X T fs b = 0) (hq : 0 ≤ q ∧ q ≤ 3652058) : ∀ l ∈ cmF W hs ts T fs, lkL W hs (tlOf ts l) l q = 0 := by
  intro l1 hl1
  obtain ⟨l, hl, rfl⟩ := List.mem_map.1 hl1
  have hk := cm_0 h l hl
  obtain ⟨g1, g2, g3, g4⟩ := cmG_ok hk
  obtain ⟨k1, k2, k3, k4⟩ := lk_0 hk
  rw [g2]
  show lkE _ _ _ _ _ _ _ _ _ _ _ _ _ _ _ _ q = 0
  unfold lkE
  rw [if_pos k1, if_pos (show failE _ _ _ _ _ _ _ _ _ _ = 0 from g1), if_pos (by unfold dayB; exact decide_eq_true hq), g3]
  exact k4
theorem once_nig {W X T q : Int} {hs ps : List Int} {ts fs F : List (List Int)} {b B : List (Int × Int × Int)} (hF : checksE F = 0) (hlk : ∀ l ∈ F, lkL W hs (tlOf ts l) l q = 0) :
    nigE W hs ts X (opnF F) ps q B = nigE W hs ts X F ps q B ∧ nigB W hs ts X (opnF F) ps q B = nigB W hs ts X F ps q B ∧ nigP W hs ts X (opnF F) ps q B = nigP W hs ts X F ps q B := by
  have hsub : (opnF F).Sublist F := List.filter_sublist
  have e1 : dayE W hs ts (opnF F) ps q = dayE W hs ts F ps q := by
    unfold dayE preE
    rw [hF, checks_sub hsub hF, pd_all hlk, pd_all fun l hl => hlk l (hsub.subset hl)]
  have e2 : dayD W hs ts (opnF F) ps q = dayD W hs ts F ps q := by unfold dayD; rw [e1, due_opn]
  have e3 : pnL W hs ts (opnF F) ps q = pnL W hs ts F ps q := by unfold pnL; rw [e2]
  have e4 : ∀ b, pnE W hs ts (opnF F) ps q b = pnE W hs ts F ps q b := fun b => by unfold pnE; rw [e1, e2]
  have e5 : ∀ b, pnB W hs ts (opnF F) ps q b = pnB W hs ts F ps q b := fun b => by unfold pnB; rw [e3]
  have c := fun b => cm_opn (ps := ps) (X := X) (b := b) hlk
  refine ⟨?_, ?_, ?_⟩
  · unfold nigE; rw [e4, e5, (c _).1]
  · unfold nigB; rw [e5, (c _).2.1]
  · unfold nigP; rw [e3, (c []).2.2]
/-- a night behind a night, with what is closed or without it -/
theorem once_nt {W X T : Int} {hs ps : List Int} {ts fs : List (List Int)} {b : List (Int × Int × Int)} (h : ntE W hs ts X fs ps T b = 0) :
    ntE W hs ts X (opnF (cmF W hs ts T fs)) ps (steR W hs T 1) (nigB W hs ts X fs ps T b) = ntE W hs ts X (cmF W hs ts T fs) ps (steR W hs T 1) (nigB W hs ts X fs ps T b) ∧
    ntB W hs ts X (opnF (cmF W hs ts T fs)) ps (steR W hs T 1) (nigB W hs ts X fs ps T b) = ntB W hs ts X (cmF W hs ts T fs) ps (steR W hs T 1) (nigB W hs ts X fs ps T b) ∧
    ntP W hs ts X (opnF (cmF W hs ts T fs)) ps (steR W hs T 1) (nigB W hs ts X fs ps T b) = ntP W hs ts X (cmF W hs ts T fs) ps (steR W hs T 1) (nigB W hs ts X fs ps T b) ∧
    ntT W hs ts X (opnF (cmF W hs ts T fs)) ps (steR W hs T 1) (nigB W hs ts X fs ps T b) = ntT W hs ts X (cmF W hs ts T fs) ps (steR W hs T 1) (nigB W hs ts X fs ps T b) := by
  obtain ⟨h1, h2, h3, h4, h5⟩ := nt_0 h
  have hw := nt_wld h
  have hc := (wld_0 hw).2.1
  have hd := (ste_one h5).2
  have hw2 : wldE (steR W hs T 1) (opnF (cmF W hs ts T fs)) (nigB W hs ts X fs ps T b) = 0 := by
    unfold wldE todE
    rw [if_pos hd, checks_sub (show (opnF (cmF W hs ts T fs)).Sublist _ from List.filter_sublist) hc, (wld_0 hw).2.2]; rfl
  obtain ⟨c1, c2, c3⟩ := once_nig (X := X) (ps := ps) (B := nigB W hs ts X fs ps T b) (T := T) (fs := fs) (b := b) hc (lk_next h4 hd)
  have e : ntE W hs ts X (opnF (cmF W hs ts T fs)) ps (steR W hs T 1) (nigB W hs ts X fs ps T b) = ntE W hs ts X (cmF W hs ts T fs) ps (steR W hs T 1) (nigB W hs ts X fs ps T b) := by
    unfold ntE
    rw [hw, hw2, c1]
  refine ⟨e, ?_, ?_, ?_⟩
  · unfold ntB; rw [e, c2]
  · unfold ntP; rw [e, c3]
  · unfold ntT; rw [e]

end Go.Proofs.YthaahebggboliaaGreat

-- RefFail
namespace Go.Proofs.YthaahebggboliaaGreat
open Go.RowKit
set_option linter.unusedVariables false

theorem rbt_any (n l h : Int) (B : Bool) (hB : btw l h n = B) (w : World) :
    Calls Tryz.prog 54 #[.int .i64 n, .int .i64 l, .int .i64 h] w fun e w' => e = .returned (.bool B) ∧ w = w' := by
  cases B with
  | true =>
    obtain ⟨h1, h2⟩ := btw_t hB
    clear hB
    go_enter Tryz.func54, Tryz.ntmps54
    go_wp2
    go_ret
    exact ⟨rfl, rfl⟩
  | false =>
    have hB := btw_f hB
    by_cases h2 : n < l
    · clear hB
      go_enter Tryz.func54, Tryz.ntmps54
      go_wp2
      go_ret
      exact ⟨rfl, rfl⟩
    · have h3 : decide (n ≤ h) = false := decide_eq_false (by omega)
      have h4 : decide (l ≤ n) = true := decide_eq_true (by omega)
      have h5 : ¬ n ≤ h := by omega
      have h6 : l ≤ n := by omega
      clear hB h2
      go_enter Tryz.func54, Tryz.ntmps54
      go_wp2
      go_ret
      exact ⟨rfl, rfl⟩
theorem rfo_run (i f t c p d u x b y : Int) (w : World) (hu : 1 ≤ u ∧ u ≤ 1073741824) (hx : 0 ≤ x ∧ x ≤ u) (hb : 0 ≤ b ∧ b ≤ u) (hy : 0 ≤ y ∧ y ≤ u) :
    Calls Tryz.prog 35 #[.agg #[.int .i64 i, .int .i64 f, .int .i64 t, .int .i64 c, .int .i64 p, .int .i64 d, .int .i64 u, .int .i64 x, .int .i64 b, .int .i64 y]] w fun e w' => e = .returned (.int .i64 (u - x - b - y)) ∧ Kpt w w' := by
  go_enter Tryz.func35, Tryz.ntmps35
  go_wp2
  go_ret
  exact ⟨ret_int (by omega), (Kpt.refl w).alloc _⟩

set_option maxHeartbeats 2000000 in
theorem rfc_0 (i f t c p d u x b y : Int) (Y0 : btw 1 1099511627776 i = false) (w : World) :
    Calls Tryz.prog 98 #[.agg #[.int .i64 i, .int .i64 f, .int .i64 t, .int .i64 c, .int .i64 p, .int .i64 d, .int .i64 u, .int .i64 x, .int .i64 b, .int .i64 y]] w fun e w' => e = .returned (.int .i64 3) ∧ Kpt w w' := by
  go_enter Tryz.func98, Tryz.ntmps98
  go_wp2_with (first
    | (go_at_call 54; (with_reducible refine (rbt_any _ _ _ _ Y0 _).mono ?_); rintro e w9 ⟨rfl, rfl⟩))
  go_ret
  exact ⟨rfl, ((Kpt.refl w).alloc _)⟩

set_option maxHeartbeats 2000000 in
theorem rfc_1 (i f t c p d u x b y : Int) (Y0 : btw 1 1099511627776 i = true) (Y1 : btw 0 30 f = false) (w : World) :
    Calls Tryz.prog 98 #[.agg #[.int .i64 i, .int .i64 f, .int .i64 t, .int .i64 c, .int .i64 p, .int .i64 d, .int .i64 u, .int .i64 x, .int .i64 b, .int .i64 y]] w fun e w' => e = .returned (.int .i64 3) ∧ Kpt w w' := by
  go_enter Tryz.func98, Tryz.ntmps98
  go_wp2_with (first
    | (go_at_call 54; (with_reducible refine (rbt_any _ _ _ _ Y0 _).mono ?_); rintro e w9 ⟨rfl, rfl⟩)
    | (go_at_call 54; (with_reducible refine (rbt_any _ _ _ _ Y1 _).mono ?_); rintro e w9 ⟨rfl, rfl⟩))
  go_ret
  exact ⟨rfl, ((Kpt.refl w).alloc _)⟩

set_option maxHeartbeats 2000000 in
theorem rfc_2 (i f t c p d u x b y : Int) (Y0 : btw 1 1099511627776 i = true) (Y1 : btw 0 30 f = true) (Y2 : btw 0 30 t = false) (w : World) :
    Calls Tryz.prog 98 #[.agg #[.int .i64 i, .int .i64 f, .int .i64 t, .int .i64 c, .int .i64 p, .int .i64 d, .int .i64 u, .int .i64 x, .int .i64 b, .int .i64 y]] w fun e w' => e = .returned (.int .i64 3) ∧ Kpt w w' := by
  go_enter Tryz.func98, Tryz.ntmps98
  go_wp2_with (first
    | (go_at_call 54; (with_reducible refine (rbt_any _ _ _ _ Y0 _).mono ?_); rintro e w9 ⟨rfl, rfl⟩)
    | (go_at_call 54; (with_reducible refine (rbt_any _ _ _ _ Y1 _).mono ?_); rintro e w9 ⟨rfl, rfl⟩)
    | (go_at_call 54; (with_reducible refine (rbt_any _ _ _ _ Y2 _).mono ?_); rintro e w9 ⟨rfl, rfl⟩))
  go_ret
  exact ⟨rfl, ((Kpt.refl w).alloc _)⟩

set_option maxHeartbeats 2000000 in
theorem rfc_3 (i f t c p d u x b y : Int) (Y0 : btw 1 1099511627776 i = true) (Y1 : btw 0 30 f = true) (Y2 : btw 0 30 t = true) (Y3 : btw 0 5 c = false) (w : World) :
    Calls Tryz.prog 98 #[.agg #[.int .i64 i, .int .i64 f, .int .i64 t, .int .i64 c, .int .i64 p, .int .i64 d, .int .i64 u, .int .i64 x, .int .i64 b, .int .i64 y]] w fun e w' => e = .returned (.int .i64 3) ∧ Kpt w w' := by
  go_enter Tryz.func98, Tryz.ntmps98
  go_wp2_with (first
    | (go_at_call 54; (with_reducible refine (rbt_any _ _ _ _ Y0 _).mono ?_); rintro e w9 ⟨rfl, rfl⟩)
    | (go_at_call 54; (with_reducible refine (rbt_any _ _ _ _ Y1 _).mono ?_); rintro e w9 ⟨rfl, rfl⟩)
    | (go_at_call 54; (with_reducible refine (rbt_any _ _ _ _ Y2 _).mono ?_); rintro e w9 ⟨rfl, rfl⟩)
    | (go_at_call 54; (with_reducible refine (rbt_any _ _ _ _ Y3 _).mono ?_); rintro e w9 ⟨rfl, rfl⟩))
  go_ret
  exact ⟨rfl, ((Kpt.refl w).alloc _)⟩

set_option maxHeartbeats 2000000 in
theorem rfc_4 (i f t c p d u x b y : Int) (Y0 : btw 1 1099511627776 i = true) (Y1 : btw 0 30 f = true) (Y2 : btw 0 30 t = true) (Y3 : btw 0 5 c = true) (Y4 : btw 1 20 p = false) (w : World) :
    Calls Tryz.prog 98 #[.agg #[.int .i64 i, .int .i64 f, .int .i64 t, .int .i64 c, .int .i64 p, .int .i64 d, .int .i64 u, .int .i64 x, .int .i64 b, .int .i64 y]] w fun e w' => e = .returned (.int .i64 3) ∧ Kpt w w' := by
  go_enter Tryz.func98, Tryz.ntmps98
  go_wp2_with (first
    | (go_at_call 54; (with_reducible refine (rbt_any _ _ _ _ Y0 _).mono ?_); rintro e w9 ⟨rfl, rfl⟩)
    | (go_at_call 54; (with_reducible refine (rbt_any _ _ _ _ Y1 _).mono ?_); rintro e w9 ⟨rfl, rfl⟩)
    | (go_at_call 54; (with_reducible refine (rbt_any _ _ _ _ Y2 _).mono ?_); rintro e w9 ⟨rfl, rfl⟩)
    | (go_at_call 54; (with_reducible refine (rbt_any _ _ _ _ Y3 _).mono ?_); rintro e w9 ⟨rfl, rfl⟩)
    | (go_at_call 54; (with_reducible refine (rbt_any _ _ _ _ Y4 _).mono ?_); rintro e w9 ⟨rfl, rfl⟩))
  go_ret
  exact ⟨rfl, ((Kpt.refl w).alloc _)⟩

set_option maxHeartbeats 2000000 in
theorem rfc_5 (i f t c p d u x b y : Int) (Y0 : btw 1 1099511627776 i = true) (Y1 : btw 0 30 f = true) (Y2 : btw 0 30 t = true) (Y3 : btw 0 5 c = true) (Y4 : btw 1 20 p = true) (Y5 : btw 0 3652058 d = false) (w : World) :
    Calls Tryz.prog 98 #[.agg #[.int .i64 i, .int .i64 f, .int .i64 t, .int .i64 c, .int .i64 p, .int .i64 d, .int .i64 u, .int .i64 x, .int .i64 b, .int .i64 y]] w fun e w' => e = .returned (.int .i64 3) ∧ Kpt w w' := by
  go_enter Tryz.func98, Tryz.ntmps98
  go_wp2_with (first
    | (go_at_call 54; (with_reducible refine (rbt_any _ _ _ _ Y0 _).mono ?_); rintro e w9 ⟨rfl, rfl⟩)
    | (go_at_call 54; (with_reducible refine (rbt_any _ _ _ _ Y1 _).mono ?_); rintro e w9 ⟨rfl, rfl⟩)
    | (go_at_call 54; (with_reducible refine (rbt_any _ _ _ _ Y2 _).mono ?_); rintro e w9 ⟨rfl, rfl⟩)
    | (go_at_call 54; (with_reducible refine (rbt_any _ _ _ _ Y3 _).mono ?_); rintro e w9 ⟨rfl, rfl⟩)
    | (go_at_call 54; (with_reducible refine (rbt_any _ _ _ _ Y4 _).mono ?_); rintro e w9 ⟨rfl, rfl⟩)
    | (go_at_call 54; (with_reducible refine (rbt_any _ _ _ _ Y5 _).mono ?_); rintro e w9 ⟨rfl, rfl⟩))
  go_ret
  exact ⟨rfl, ((Kpt.refl w).alloc _)⟩

set_option maxHeartbeats 2000000 in
theorem rfc_6 (i f t c p d u x b y : Int) (Y0 : btw 1 1099511627776 i = true) (Y1 : btw 0 30 f = true) (Y2 : btw 0 30 t = true) (Y3 : btw 0 5 c = true) (Y4 : btw 1 20 p = true) (Y5 : btw 0 3652058 d = true) (Y6 : btw 1 1073741824 u = false) (w : World) :
    Calls Tryz.prog 98 #[.agg #[.int .i64 i, .int .i64 f, .int .i64 t, .int .i64 c, .int .i64 p, .int .i64 d, .int .i64 u, .int .i64 x, .int .i64 b, .int .i64 y]] w fun e w' => e = .returned (.int .i64 3) ∧ Kpt w w' := by
  go_enter Tryz.func98, Tryz.ntmps98
  go_wp2_with (first
    | (go_at_call 54; (with_reducible refine (rbt_any _ _ _ _ Y0 _).mono ?_); rintro e w9 ⟨rfl, rfl⟩)
    | (go_at_call 54; (with_reducible refine (rbt_any _ _ _ _ Y1 _).mono ?_); rintro e w9 ⟨rfl, rfl⟩)
    | (go_at_call 54; (with_reducible refine (rbt_any _ _ _ _ Y2 _).mono ?_); rintro e w9 ⟨rfl, rfl⟩)
    | (go_at_call 54; (with_reducible refine (rbt_any _ _ _ _ Y3 _).mono ?_); rintro e w9 ⟨rfl, rfl⟩)
    | (go_at_call 54; (with_reducible refine (rbt_any _ _ _ _ Y4 _).mono ?_); rintro e w9 ⟨rfl, rfl⟩)
    | (go_at_call 54; (with_reducible refine (rbt_any _ _ _ _ Y5 _).mono ?_); rintro e w9 ⟨rfl, rfl⟩)
    | (go_at_call 54; (with_reducible refine (rbt_any _ _ _ _ Y6 _).mono ?_); rintro e w9 ⟨rfl, rfl⟩))
  go_ret
  exact ⟨rfl, ((Kpt.refl w).alloc _)⟩

set_option maxHeartbeats 2000000 in
theorem rfc_eq (i f t c p d u x b y : Int) (Y0 : btw 1 1099511627776 i = true) (Y1 : btw 0 30 f = true) (Y2 : btw 0 30 t = true) (Y3 : btw 0 5 c = true) (Y4 : btw 1 20 p = true) (Y5 : btw 0 3652058 d = true) (Y6 : btw 1 1073741824 u = true) (h : (f == t) = true) (w : World) :
    Calls Tryz.prog 98 #[.agg #[.int .i64 i, .int .i64 f, .int .i64 t, .int .i64 c, .int .i64 p, .int .i64 d, .int .i64 u, .int .i64 x, .int .i64 b, .int .i64 y]] w fun e w' => e = .returned (.int .i64 1) ∧ Kpt w w' := by
  go_enter Tryz.func98, Tryz.ntmps98
  go_wp2_with (first
    | (go_at_call 54; (with_reducible refine (rbt_any _ _ _ _ Y0 _).mono ?_); rintro e w9 ⟨rfl, rfl⟩)
    | (go_at_call 54; (with_reducible refine (rbt_any _ _ _ _ Y1 _).mono ?_); rintro e w9 ⟨rfl, rfl⟩)
    | (go_at_call 54; (with_reducible refine (rbt_any _ _ _ _ Y2 _).mono ?_); rintro e w9 ⟨rfl, rfl⟩)
    | (go_at_call 54; (with_reducible refine (rbt_any _ _ _ _ Y3 _).mono ?_); rintro e w9 ⟨rfl, rfl⟩)
    | (go_at_call 54; (with_reducible refine (rbt_any _ _ _ _ Y4 _).mono ?_); rintro e w9 ⟨rfl, rfl⟩)
    | (go_at_call 54; (with_reducible refine (rbt_any _ _ _ _ Y5 _).mono ?_); rintro e w9 ⟨rfl, rfl⟩)
    | (go_at_call 54; (with_reducible refine (rbt_any _ _ _ _ Y6 _).mono ?_); rintro e w9 ⟨rfl, rfl⟩))
  go_ret
  exact ⟨rfl, ((Kpt.refl w).alloc _)⟩

set_option maxHeartbeats 2000000 in
theorem rfc_t0 (i f t c p d u x b y : Int) (Y0 : btw 1 1099511627776 i = true) (Y1 : btw 0 30 f = true) (Y2 : btw 0 30 t = true) (Y3 : btw 0 5 c = true) (Y4 : btw 1 20 p = true) (Y5 : btw 0 3652058 d = true) (Y6 : btw 1 1073741824 u = true) (h : (f == t) = false) (Y7 : btw 0 u x = false) (w : World) :
    Calls Tryz.prog 98 #[.agg #[.int .i64 i, .int .i64 f, .int .i64 t, .int .i64 c, .int .i64 p, .int .i64 d, .int .i64 u, .int .i64 x, .int .i64 b, .int .i64 y]] w fun e w' => e = .returned (.int .i64 3) ∧ Kpt w w' := by
  go_enter Tryz.func98, Tryz.ntmps98
  go_wp2_with (first
    | (go_at_call 54; (with_reducible refine (rbt_any _ _ _ _ Y0 _).mono ?_); rintro e w9 ⟨rfl, rfl⟩)
    | (go_at_call 54; (with_reducible refine (rbt_any _ _ _ _ Y1 _).mono ?_); rintro e w9 ⟨rfl, rfl⟩)
    | (go_at_call 54; (with_reducible refine (rbt_any _ _ _ _ Y2 _).mono ?_); rintro e w9 ⟨rfl, rfl⟩)
    | (go_at_call 54; (with_reducible refine (rbt_any _ _ _ _ Y3 _).mono ?_); rintro e w9 ⟨rfl, rfl⟩)
    | (go_at_call 54; (with_reducible refine (rbt_any _ _ _ _ Y4 _).mono ?_); rintro e w9 ⟨rfl, rfl⟩)
    | (go_at_call 54; (with_reducible refine (rbt_any _ _ _ _ Y5 _).mono ?_); rintro e w9 ⟨rfl, rfl⟩)
    | (go_at_call 54; (with_reducible refine (rbt_any _ _ _ _ Y6 _).mono ?_); rintro e w9 ⟨rfl, rfl⟩)
    | (go_at_call 54; (with_reducible refine (rbt_any _ _ _ _ Y7 _).mono ?_); rintro e w9 ⟨rfl, rfl⟩))
  go_ret
  exact ⟨rfl, ((Kpt.refl w).alloc _)⟩

set_option maxHeartbeats 2000000 in
theorem rfc_t1 (i f t c p d u x b y : Int) (Y0 : btw 1 1099511627776 i = true) (Y1 : btw 0 30 f = true) (Y2 : btw 0 30 t = true) (Y3 : btw 0 5 c = true) (Y4 : btw 1 20 p = true) (Y5 : btw 0 3652058 d = true) (Y6 : btw 1 1073741824 u = true) (h : (f == t) = false) (Y7 : btw 0 u x = true) (Y8 : btw 0 u b = false) (w : World) :
    Calls Tryz.prog 98 #[.agg #[.int .i64 i, .int .i64 f, .int .i64 t, .int .i64 c, .int .i64 p, .int .i64 d, .int .i64 u, .int .i64 x, .int .i64 b, .int .i64 y]] w fun e w' => e = .returned (.int .i64 3) ∧ Kpt w w' := by
  go_enter Tryz.func98, Tryz.ntmps98
  go_wp2_with (first
    | (go_at_call 54; (with_reducible refine (rbt_any _ _ _ _ Y0 _).mono ?_); rintro e w9 ⟨rfl, rfl⟩)
    | (go_at_call 54; (with_reducible refine (rbt_any _ _ _ _ Y1 _).mono ?_); rintro e w9 ⟨rfl, rfl⟩)
    | (go_at_call 54; (with_reducible refine (rbt_any _ _ _ _ Y2 _).mono ?_); rintro e w9 ⟨rfl, rfl⟩)
    | (go_at_call 54; (with_reducible refine (rbt_any _ _ _ _ Y3 _).mono ?_); rintro e w9 ⟨rfl, rfl⟩)
    | (go_at_call 54; (with_reducible refine (rbt_any _ _ _ _ Y4 _).mono ?_); rintro e w9 ⟨rfl, rfl⟩)
    | (go_at_call 54; (with_reducible refine (rbt_any _ _ _ _ Y5 _).mono ?_); rintro e w9 ⟨rfl, rfl⟩)
    | (go_at_call 54; (with_reducible refine (rbt_any _ _ _ _ Y6 _).mono ?_); rintro e w9 ⟨rfl, rfl⟩)
    | (go_at_call 54; (with_reducible refine (rbt_any _ _ _ _ Y7 _).mono ?_); rintro e w9 ⟨rfl, rfl⟩)
    | (go_at_call 54; (with_reducible refine (rbt_any _ _ _ _ Y8 _).mono ?_); rintro e w9 ⟨rfl, rfl⟩))
  go_ret
  exact ⟨rfl, ((Kpt.refl w).alloc _)⟩

set_option maxHeartbeats 2000000 in
theorem rfc_t2 (i f t c p d u x b y : Int) (Y0 : btw 1 1099511627776 i = true) (Y1 : btw 0 30 f = true) (Y2 : btw 0 30 t = true) (Y3 : btw 0 5 c = true) (Y4 : btw 1 20 p = true) (Y5 : btw 0 3652058 d = true) (Y6 : btw 1 1073741824 u = true) (h : (f == t) = false) (Y7 : btw 0 u x = true) (Y8 : btw 0 u b = true) (Y9 : btw 0 u y = false) (w : World) :
    Calls Tryz.prog 98 #[.agg #[.int .i64 i, .int .i64 f, .int .i64 t, .int .i64 c, .int .i64 p, .int .i64 d, .int .i64 u, .int .i64 x, .int .i64 b, .int .i64 y]] w fun e w' => e = .returned (.int .i64 3) ∧ Kpt w w' := by
  go_enter Tryz.func98, Tryz.ntmps98
  go_wp2_with (first
    | (go_at_call 54; (with_reducible refine (rbt_any _ _ _ _ Y0 _).mono ?_); rintro e w9 ⟨rfl, rfl⟩)
    | (go_at_call 54; (with_reducible refine (rbt_any _ _ _ _ Y1 _).mono ?_); rintro e w9 ⟨rfl, rfl⟩)
    | (go_at_call 54; (with_reducible refine (rbt_any _ _ _ _ Y2 _).mono ?_); rintro e w9 ⟨rfl, rfl⟩)
    | (go_at_call 54; (with_reducible refine (rbt_any _ _ _ _ Y3 _).mono ?_); rintro e w9 ⟨rfl, rfl⟩)
    | (go_at_call 54; (with_reducible refine (rbt_any _ _ _ _ Y4 _).mono ?_); rintro e w9 ⟨rfl, rfl⟩)
    | (go_at_call 54; (with_reducible refine (rbt_any _ _ _ _ Y5 _).mono ?_); rintro e w9 ⟨rfl, rfl⟩)
    | (go_at_call 54; (with_reducible refine (rbt_any _ _ _ _ Y6 _).mono ?_); rintro e w9 ⟨rfl, rfl⟩)
    | (go_at_call 54; (with_reducible refine (rbt_any _ _ _ _ Y7 _).mono ?_); rintro e w9 ⟨rfl, rfl⟩)
    | (go_at_call 54; (with_reducible refine (rbt_any _ _ _ _ Y8 _).mono ?_); rintro e w9 ⟨rfl, rfl⟩)
    | (go_at_call 54; (with_reducible refine (rbt_any _ _ _ _ Y9 _).mono ?_); rintro e w9 ⟨rfl, rfl⟩))
  go_ret
  exact ⟨rfl, ((Kpt.refl w).alloc _)⟩

set_option maxHeartbeats 2000000 in
theorem rfc_neg (i f t c p d u x b y : Int) (Y0 : btw 1 1099511627776 i = true) (Y1 : btw 0 30 f = true) (Y2 : btw 0 30 t = true) (Y3 : btw 0 5 c = true) (Y4 : btw 1 20 p = true) (Y5 : btw 0 3652058 d = true) (Y6 : btw 1 1073741824 u = true) (h : (f == t) = false) (Y7 : btw 0 u x = true) (Y8 : btw 0 u b = true) (Y9 : btw 0 u y = true) (ho : decide (u - x - b - y < 0) = true) (w : World) :
    Calls Tryz.prog 98 #[.agg #[.int .i64 i, .int .i64 f, .int .i64 t, .int .i64 c, .int .i64 p, .int .i64 d, .int .i64 u, .int .i64 x, .int .i64 b, .int .i64 y]] w fun e w' => e = .returned (.int .i64 4) ∧ Kpt w w' := by
  have OP := Lib.hid (fun w' => rfo_run i f t c p d u x b y w' (btw_t Y6) (btw_t Y7) (btw_t Y8) (btw_t Y9))
  generalize u - x - b - y = O at *
  go_enter Tryz.func98, Tryz.ntmps98
  go_wp2_with (first
    | (go_at_call 54; (with_reducible refine (rbt_any _ _ _ _ Y0 _).mono ?_); rintro e w9 ⟨rfl, rfl⟩)
    | (go_at_call 54; (with_reducible refine (rbt_any _ _ _ _ Y1 _).mono ?_); rintro e w9 ⟨rfl, rfl⟩)
    | (go_at_call 54; (with_reducible refine (rbt_any _ _ _ _ Y2 _).mono ?_); rintro e w9 ⟨rfl, rfl⟩)
    | (go_at_call 54; (with_reducible refine (rbt_any _ _ _ _ Y3 _).mono ?_); rintro e w9 ⟨rfl, rfl⟩)
    | (go_at_call 54; (with_reducible refine (rbt_any _ _ _ _ Y4 _).mono ?_); rintro e w9 ⟨rfl, rfl⟩)
    | (go_at_call 54; (with_reducible refine (rbt_any _ _ _ _ Y5 _).mono ?_); rintro e w9 ⟨rfl, rfl⟩)
    | (go_at_call 54; (with_reducible refine (rbt_any _ _ _ _ Y6 _).mono ?_); rintro e w9 ⟨rfl, rfl⟩)
    | (go_at_call 54; (with_reducible refine (rbt_any _ _ _ _ Y7 _).mono ?_); rintro e w9 ⟨rfl, rfl⟩)
    | (go_at_call 54; (with_reducible refine (rbt_any _ _ _ _ Y8 _).mono ?_); rintro e w9 ⟨rfl, rfl⟩)
    | (go_at_call 54; (with_reducible refine (rbt_any _ _ _ _ Y9 _).mono ?_); rintro e w9 ⟨rfl, rfl⟩)
    | (refine wp_loadF rfl (.tmp 1) rfl w.heap.size _ rfl (Blk.made w #[.int .i64 i, .int .i64 f, .int .i64 t, .int .i64 c, .int .i64 p, .int .i64 d, .int .i64 u, .int .i64 x, .int .i64 b, .int .i64 y] 42) rfl ?_)
    | (go_at_call 35; (with_reducible refine (OP.out _).mono ?_); rintro e w3 ⟨rfl, k3⟩; have K3 := Lib.hid (ktr ((Kpt.refl w).alloc (.cells #[.int .i64 i, .int .i64 f, .int .i64 t, .int .i64 c, .int .i64 p, .int .i64 d, .int .i64 u, .int .i64 x, .int .i64 b, .int .i64 y] 42)) k3); clear k3))
  go_ret
  exact ⟨rfl, K3.out⟩

set_option maxHeartbeats 2000000 in
theorem rfc_ok (i f t c p d u x b y : Int) (Y0 : btw 1 1099511627776 i = true) (Y1 : btw 0 30 f = true) (Y2 : btw 0 30 t = true) (Y3 : btw 0 5 c = true) (Y4 : btw 1 20 p = true) (Y5 : btw 0 3652058 d = true) (Y6 : btw 1 1073741824 u = true) (h : (f == t) = false) (Y7 : btw 0 u x = true) (Y8 : btw 0 u b = true) (Y9 : btw 0 u y = true) (ho : decide (u - x - b - y < 0) = false) (w : World) :
    Calls Tryz.prog 98 #[.agg #[.int .i64 i, .int .i64 f, .int .i64 t, .int .i64 c, .int .i64 p, .int .i64 d, .int .i64 u, .int .i64 x, .int .i64 b, .int .i64 y]] w fun e w' => e = .returned (.int .i64 0) ∧ Kpt w w' := by
  have OP := Lib.hid (fun w' => rfo_run i f t c p d u x b y w' (btw_t Y6) (btw_t Y7) (btw_t Y8) (btw_t Y9))
  generalize u - x - b - y = O at *
  go_enter Tryz.func98, Tryz.ntmps98
  go_wp2_with (first
    | (go_at_call 54; (with_reducible refine (rbt_any _ _ _ _ Y0 _).mono ?_); rintro e w9 ⟨rfl, rfl⟩)
    | (go_at_call 54; (with_reducible refine (rbt_any _ _ _ _ Y1 _).mono ?_); rintro e w9 ⟨rfl, rfl⟩)
    | (go_at_call 54; (with_reducible refine (rbt_any _ _ _ _ Y2 _).mono ?_); rintro e w9 ⟨rfl, rfl⟩)
    | (go_at_call 54; (with_reducible refine (rbt_any _ _ _ _ Y3 _).mono ?_); rintro e w9 ⟨rfl, rfl⟩)
    | (go_at_call 54; (with_reducible refine (rbt_any _ _ _ _ Y4 _).mono ?_); rintro e w9 ⟨rfl, rfl⟩)
    | (go_at_call 54; (with_reducible refine (rbt_any _ _ _ _ Y5 _).mono ?_); rintro e w9 ⟨rfl, rfl⟩)
    | (go_at_call 54; (with_reducible refine (rbt_any _ _ _ _ Y6 _).mono ?_); rintro e w9 ⟨rfl, rfl⟩)
    | (go_at_call 54; (with_reducible refine (rbt_any _ _ _ _ Y7 _).mono ?_); rintro e w9 ⟨rfl, rfl⟩)
    | (go_at_call 54; (with_reducible refine (rbt_any _ _ _ _ Y8 _).mono ?_); rintro e w9 ⟨rfl, rfl⟩)
    | (go_at_call 54; (with_reducible refine (rbt_any _ _ _ _ Y9 _).mono ?_); rintro e w9 ⟨rfl, rfl⟩)
    | (refine wp_loadF rfl (.tmp 1) rfl w.heap.size _ rfl (Blk.made w #[.int .i64 i, .int .i64 f, .int .i64 t, .int .i64 c, .int .i64 p, .int .i64 d, .int .i64 u, .int .i64 x, .int .i64 b, .int .i64 y] 42) rfl ?_)
    | (go_at_call 35; (with_reducible refine (OP.out _).mono ?_); rintro e w3 ⟨rfl, k3⟩; have K3 := Lib.hid (ktr ((Kpt.refl w).alloc (.cells #[.int .i64 i, .int .i64 f, .int .i64 t, .int .i64 c, .int .i64 p, .int .i64 d, .int .i64 u, .int .i64 x, .int .i64 b, .int .i64 y] 42)) k3); clear k3))
  go_ret
  exact ⟨rfl, K3.out⟩

theorem rfc_run (i f t c p d u x b y : Int) (w : World) :
    Calls Tryz.prog 98 #[.agg #[.int .i64 i, .int .i64 f, .int .i64 t, .int .i64 c, .int .i64 p, .int .i64 d, .int .i64 u, .int .i64 x, .int .i64 b, .int .i64 y]] w fun e w' => e = .returned (.int .i64 (failE i f t c p d u x b y)) ∧ Kpt w w' := by
  have bad : fdue i f t c p d u = false → failE i f t c p d u x b y = 3 := fun h => by unfold failE; rw [h]; rfl
  cases Y0 : btw 1 1099511627776 i with
  | false =>
    rw [bad (by cases hq : fdue i f t c p d u with
      | false => rfl
      | true => exact absurd (fdue_t hq) (by have := btw_f Y0; omega))]
    exact rfc_0 i f t c p d u x b y Y0 w
  | true =>
    cases Y1 : btw 0 30 f with
    | false =>
      rw [bad (by cases hq : fdue i f t c p d u with
        | false => rfl
        | true => exact absurd (fdue_t hq) (by have := btw_f Y1; omega))]
      exact rfc_1 i f t c p d u x b y Y0 Y1 w
    | true =>
      cases Y2 : btw 0 30 t with
      | false =>
        rw [bad (by cases hq : fdue i f t c p d u with
          | false => rfl
          | true => exact absurd (fdue_t hq) (by have := btw_f Y2; omega))]
        exact rfc_2 i f t c p d u x b y Y0 Y1 Y2 w
      | true =>
        cases Y3 : btw 0 5 c with
        | false =>
          rw [bad (by cases hq : fdue i f t c p d u with
            | false => rfl
            | true => exact absurd (fdue_t hq) (by have := btw_f Y3; omega))]
          exact rfc_3 i f t c p d u x b y Y0 Y1 Y2 Y3 w
        | true =>
          cases Y4 : btw 1 20 p with
          | false =>
            rw [bad (by cases hq : fdue i f t c p d u with
              | false => rfl
              | true => exact absurd (fdue_t hq) (by have := btw_f Y4; omega))]
            exact rfc_4 i f t c p d u x b y Y0 Y1 Y2 Y3 Y4 w
          | true =>
            cases Y5 : btw 0 3652058 d with
            | false =>
              rw [bad (by cases hq : fdue i f t c p d u with
                | false => rfl
                | true => exact absurd (fdue_t hq) (by have := btw_f Y5; omega))]
              exact rfc_5 i f t c p d u x b y Y0 Y1 Y2 Y3 Y4 Y5 w
            | true =>
              cases Y6 : btw 1 1073741824 u with
              | false =>
                rw [bad (by cases hq : fdue i f t c p d u with
                  | false => rfl
                  | true => exact absurd (fdue_t hq) (by have := btw_f Y6; omega))]
                exact rfc_6 i f t c p d u x b y Y0 Y1 Y2 Y3 Y4 Y5 Y6 w
              | true =>
                have Y : fdue i f t c p d u = true := fdue_mk ⟨btw_t Y5, btw_t Y0, ⟨btw_t Y1, btw_t Y2⟩, btw_t Y3, btw_t Y4, btw_t Y6⟩
                by_cases h : f = t
                · rw [show failE i f t c p d u x b y = 1 by unfold failE; rw [if_pos Y, if_pos h]]
                  exact rfc_eq i f t c p d u x b y Y0 Y1 Y2 Y3 Y4 Y5 Y6 (beq_iff_eq.2 h) w
                · have hn : (f == t) = false := beq_eq_false_iff_ne.2 h
                  cases Y7 : btw 0 u x with
                  | false =>
                    rw [show failE i f t c p d u x b y = 3 by unfold failE; rw [if_pos Y, if_neg h, if_neg (fun hq => absurd (ftk_t hq) (by have := btw_f Y7; omega))]]
                    exact rfc_t0 i f t c p d u x b y Y0 Y1 Y2 Y3 Y4 Y5 Y6 hn Y7 w
                  | true =>
                    cases Y8 : btw 0 u b with
                    | false =>
                      rw [show failE i f t c p d u x b y = 3 by unfold failE; rw [if_pos Y, if_neg h, if_neg (fun hq => absurd (ftk_t hq) (by have := btw_f Y8; omega))]]
                      exact rfc_t1 i f t c p d u x b y Y0 Y1 Y2 Y3 Y4 Y5 Y6 hn Y7 Y8 w
                    | true =>
                      cases Y9 : btw 0 u y with
                      | false =>
                        rw [show failE i f t c p d u x b y = 3 by unfold failE; rw [if_pos Y, if_neg h, if_neg (fun hq => absurd (ftk_t hq) (by have := btw_f Y9; omega))]]
                        exact rfc_t2 i f t c p d u x b y Y0 Y1 Y2 Y3 Y4 Y5 Y6 hn Y7 Y8 Y9 w
                      | true =>
                        have YT : ftk u x b y = true := ftk_mk ⟨btw_t Y7, btw_t Y8, btw_t Y9⟩
                        by_cases ho : u - x - b - y < 0
                        · rw [show failE i f t c p d u x b y = 4 by unfold failE; rw [if_pos Y, if_neg h, if_pos YT, if_pos ho]]
                          exact rfc_neg i f t c p d u x b y Y0 Y1 Y2 Y3 Y4 Y5 Y6 hn Y7 Y8 Y9 (decide_eq_true ho) w
                        · rw [show failE i f t c p d u x b y = 0 by unfold failE; rw [if_pos Y, if_neg h, if_pos YT, if_neg ho]]
                          exact rfc_ok i f t c p d u x b y Y0 Y1 Y2 Y3 Y4 Y5 Y6 hn Y7 Y8 Y9 (decide_eq_false ho) w

end Go.Proofs.YthaahebggboliaaGreat

-- LawCO
namespace Go.Proofs.YthaahebggboliaaGreat
open Go.RowKit Go.Sort Go.Lib
set_option linter.unusedVariables false

set_option maxRecDepth 100000 in
set_option maxHeartbeats 4000000 in
theorem con_no (W X T : Int) (ah at' a ab : Option Addr) (nh ch nt ct n c nb cb : Nat) (pv : Value) (w : World) (E : Int) (hE : (E != 0) = true)
    (A1 : ∀ w', Kpt w w' → Calls Tryz.prog 11 #[.agg #[.int .i64 W, .slice ah nh ch, .slice at' nt ct, .int .i64 X], .agg #[.int .i64 T, .slice a n c, .slice ab nb cb], pv] w' (NtRes w' E 0 [] [] [])) : Calls Tryz.prog 7 #[.agg #[.int .i64 W, .slice ah nh ch, .slice at' nt ct, .int .i64 X], .agg #[.int .i64 T, .slice a n c, .slice ab nb cb], pv] w fun e w' => e = .returned (.bool true) ∧ Kpt w w' := by
  have K3 : Hid (Kpt w ((w.alloc (.cells #[.int .i64 W, .slice ah nh ch, .slice at' nt ct, .int .i64 X] 27)).alloc (.cells #[.int .i64 T, .slice a n c, .slice ab nb cb] 31))) := ((Kpt.refl w).alloc _).alloc _
  have B3 : Hid (Blk ((w.alloc (.cells #[.int .i64 W, .slice ah nh ch, .slice at' nt ct, .int .i64 X] 27)).alloc (.cells #[.int .i64 T, .slice a n c, .slice ab nb cb] 31)) w.heap.size #[.int .i64 W, .slice ah nh ch, .slice at' nt ct, .int .i64 X] 27) := (Blk.made w _ _).alloc _
  go_enter Tryz.func7, Tryz.ntmps7
  go_wp2_with (first
    | (go_at_call 11; (with_reducible refine (A1 _ K3.out).mono ?_); rintro e w1 ⟨fv1, bv1, qv1, rfl, of1, ob1, oq1, k1⟩; have K1 : Hid (Kpt w w1) := ktr K3.out k1; have KW1 : Hid (Kpt ((w.alloc (.cells #[.int .i64 W, .slice ah nh ch, .slice at' nt ct, .int .i64 X] 27)).alloc (.cells #[.int .i64 T, .slice a n c, .slice ab nb cb] 31)) w1) := k1; have OF1 := Lib.hid of1; have OB1 := Lib.hid ob1; obtain ⟨a1, c1, rfl⟩ := formN 0 of1 rfl; obtain ⟨b1, d1, rfl⟩ := formQ 0 ob1 rfl; obtain ⟨g1, h1, rfl⟩ := formQ 0 oq1 rfl; have Z1 : Hid (Blk (w1.alloc (.cells #[.int .i64 0, .slice none 0 0, .slice none 0 0] 31)) w1.heap.size #[.int .i64 0, .slice none 0 0, .slice none 0 0] 31) := Blk.made _ _ _; have KZ1 : Hid (Kpt w (w1.alloc (.cells #[.int .i64 0, .slice none 0 0, .slice none 0 0] 31))) := K1.out.alloc _; clear of1 ob1 oq1 k1 A1)
    | (refine wp_storeW rfl (.tmp 7) (.tmp 25) rfl w1.heap.size _ _ rfl rfl Z1.out rfl rfl (by simp [Value.oneCell']) ?_; intro w2 r9 k9 o9; have R2 := Lib.hid r9; have K2 : Hid (Kpt w w2) := k9 _ _ KZ1.out (Below.size K1.out); have KK2 : Hid (Kpt w1 w2) := k9 _ _ ((Kpt.refl w1).alloc _) (Nat.le_refl _); clear r9 k9 o9)
    | (go_at_call 13; (with_reducible refine (cycleBegun_run _).mono ?_); rintro e w3 ⟨rfl, kk⟩; have KK3 : Hid (Kpt w1 w3) := ktr KK2.out kk; have K3b : Hid (Kpt w w3) := ktr K2.out kk; have KK23 : Hid (Kpt w2 w3) := kk; clear kk)
    | fail)
  go_ret
  exact ⟨rfl, K3b.out⟩

set_option maxRecDepth 100000 in
set_option maxHeartbeats 4000000 in
theorem con_no2 (W X T : Int) (ah at' a ab : Option Addr) (nh ch nt ct n c nb cb : Nat) (pv : Value) (w : World) (T1 T2 : Int) (F1 G1 D1 F2 F4 : List (List Int)) (B1 B2 P1 P2 : List (Int × Int × Int)) (E : Int) (hE : (E != 0) = true)
    (FB : Hid (∀ l ∈ F1, FlB l)) (GB : Hid (∀ l ∈ G1, FlB l)) (IB : Hid (InP B1))
    (A1 : ∀ w', Kpt w w' → Calls Tryz.prog 11 #[.agg #[.int .i64 W, .slice ah nh ch, .slice at' nt ct, .int .i64 X], .agg #[.int .i64 T, .slice a n c, .slice ab nb cb], pv] w' (NtRes w' 0 T1 F1 B1 P1))
    (A2 : ∀ w' v1 b1, Kpt w w' → ReadsF w' v1 F1 → NilC v1 → ReadsP w' b1 B1 → Calls Tryz.prog 11 #[.agg #[.int .i64 W, .slice ah nh ch, .slice at' nt ct, .int .i64 X], .agg #[.int .i64 T1, v1, b1], pv] w' (NtRes w' E 0 [] [] []))
    (A3 : ∀ w' v1 b1, ReadsF w' v1 F1 → NilC v1 → ReadsP w' b1 B1 → Calls Tryz.prog 22 #[.agg #[.int .i64 T1, v1, b1]] w' (TdRes w' 0 T1 G1 B1 D1))
    (A4 : ∀ w' v1 b1, Kpt w w' → ReadsF w' v1 G1 → NilC v1 → ReadsP w' b1 B1 → Calls Tryz.prog 11 #[.agg #[.int .i64 W, .slice ah nh ch, .slice at' nt ct, .int .i64 X], .agg #[.int .i64 T1, v1, b1], pv] w' (NtRes w' E 0 [] [] [])) : Calls Tryz.prog 7 #[.agg #[.int .i64 W, .slice ah nh ch, .slice at' nt ct, .int .i64 X], .agg #[.int .i64 T, .slice a n c, .slice ab nb cb], pv] w fun e w' => e = .returned (.bool true) ∧ Kpt w w' := by
  obtain ⟨nF, hF'⟩ : ∃ n, n = F1.length := ⟨_, rfl⟩
  have HNF := Lib.hid hF'
  clear hF'
  have K3 : Hid (Kpt w ((w.alloc (.cells #[.int .i64 W, .slice ah nh ch, .slice at' nt ct, .int .i64 X] 27)).alloc (.cells #[.int .i64 T, .slice a n c, .slice ab nb cb] 31))) := ((Kpt.refl w).alloc _).alloc _
  have B3 : Hid (Blk ((w.alloc (.cells #[.int .i64 W, .slice ah nh ch, .slice at' nt ct, .int .i64 X] 27)).alloc (.cells #[.int .i64 T, .slice a n c, .slice ab nb cb] 31)) w.heap.size #[.int .i64 W, .slice ah nh ch, .slice at' nt ct, .int .i64 X] 27) := (Blk.made w _ _).alloc _
  have eE : (E != E) = false := bne_self_eq_false E
  go_enter Tryz.func7, Tryz.ntmps7
  go_wp2_with (first
    | (go_at_call 11; (with_reducible refine (A1 _ K3.out).mono ?_); rintro e w1 ⟨fv1, bv1, qv1, rfl, of1, ob1, oq1, k1⟩; have K1 : Hid (Kpt w w1) := ktr K3.out k1; have KW1 : Hid (Kpt ((w.alloc (.cells #[.int .i64 W, .slice ah nh ch, .slice at' nt ct, .int .i64 X] 27)).alloc (.cells #[.int .i64 T, .slice a n c, .slice ab nb cb] 31)) w1) := k1; have OF1 := Lib.hid of1; have OB1 := Lib.hid ob1; obtain ⟨a1, c1, rfl⟩ := formN nF of1 HNF.out.symm; obtain ⟨b1, d1, rfl⟩ := OwnsP.form ob1; obtain ⟨g1, h1, rfl⟩ := OwnsP.form oq1; have Z1 : Hid (Blk (w1.alloc (.cells #[.int .i64 0, .slice none 0 0, .slice none 0 0] 31)) w1.heap.size #[.int .i64 0, .slice none 0 0, .slice none 0 0] 31) := Blk.made _ _ _; have KZ1 : Hid (Kpt w (w1.alloc (.cells #[.int .i64 0, .slice none 0 0, .slice none 0 0] 31))) := K1.out.alloc _; clear of1 ob1 oq1 k1 A1)
    | (refine wp_storeW rfl (.tmp 7) (.tmp 25) rfl w1.heap.size _ _ rfl rfl Z1.out rfl rfl (by simp [Value.oneCell']) ?_; intro w2 r9 k9 o9; have R2 := Lib.hid r9; have K2 : Hid (Kpt w w2) := k9 _ _ KZ1.out (Below.size K1.out); have KK2 : Hid (Kpt w1 w2) := k9 _ _ ((Kpt.refl w1).alloc _) (Nat.le_refl _); clear r9 k9 o9)
    | (go_at_call 13; (with_reducible refine (cycleBegun_run _).mono ?_); rintro e w3 ⟨rfl, kk⟩; have KK3 : Hid (Kpt w1 w3) := ktr KK2.out kk; have K3b : Hid (Kpt w w3) := ktr K2.out kk; have KK23 : Hid (Kpt w2 w3) := kk; have y0 : World.cell? w3 ⟨w1.heap.size, 0, none⟩ = some (.int .i64 T1) := (Blk.kpt R2.out KK23.out).cell 0; have y1 : World.cell? w3 ⟨w1.heap.size, 1, none⟩ = some (.slice a1 nF c1) := (Blk.kpt R2.out KK23.out).cell 1; have y2 : World.cell? w3 ⟨w1.heap.size, 2, none⟩ = some (.slice b1 B1.length d1) := (Blk.kpt R2.out KK23.out).cell 2; have u0 : World.cell? w3 ⟨w.heap.size, 0, none⟩ = some (.int .i64 W) := (B3.out.kpt (ktr KW1.out KK3.out)).cell 0; have u1 : World.cell? w3 ⟨w.heap.size, 1, none⟩ = some (.slice ah nh ch) := (B3.out.kpt (ktr KW1.out KK3.out)).cell 1; have u2 : World.cell? w3 ⟨w.heap.size, 2, none⟩ = some (.slice at' nt ct) := (B3.out.kpt (ktr KW1.out KK3.out)).cell 2; have u3 : World.cell? w3 ⟨w.heap.size, 3, none⟩ = some (.int .i64 X) := (B3.out.kpt (ktr KW1.out KK3.out)).cell 3; have KW3 : Hid (Kpt ((w.alloc (.cells #[.int .i64 W, .slice ah nh ch, .slice at' nt ct, .int .i64 X] 27)).alloc (.cells #[.int .i64 T, .slice a n c, .slice ab nb cb] 31)) w3) := ktr KW1.out KK3.out; have RF3 : Hid (ReadsF w3 (.slice a1 nF c1) F1) := OwnsN.readsF (OwnsN.kpt OF1.out KK3.out) FB.out; have RN3 : Hid (NilC (.slice a1 nF c1)) := row_nil OF1.out; have RP3 : Hid (ReadsP w3 (.slice b1 B1.length d1) B1) := OwnsP.reads (row_kpt OB1.out KK3.out) IB.out; clear kk)
    | (go_at_call 11; (with_reducible refine (A2 _ _ _ K3b.out RF3.out RN3.out RP3.out).mono ?_); rintro e w4 ⟨fv1, bv1, qv1, rfl, of1, ob1, oq1, k1⟩; have K4 : Hid (Kpt w w4) := ktr K3b.out k1; have KK34 : Hid (Kpt w3 w4) := k1; have OF4 := Lib.hid of1; have OB4 := Lib.hid ob1; have OQ4 := Lib.hid oq1; obtain ⟨a4, c4, rfl⟩ := formN 0 of1 rfl; obtain ⟨b4, d4, rfl⟩ := formQ 0 ob1 rfl; obtain ⟨g4, h4, rfl⟩ := formQ 0 oq1 rfl; have Z4 : Hid (Blk (w4.alloc (.cells #[.int .i64 0, .slice none 0 0, .slice none 0 0] 31)) w4.heap.size #[.int .i64 0, .slice none 0 0, .slice none 0 0] 31) := Blk.made _ _ _; have KZ4 : Hid (Kpt w (w4.alloc (.cells #[.int .i64 0, .slice none 0 0, .slice none 0 0] 31))) := K4.out.alloc _; clear of1 ob1 oq1 k1 A2 y0 y1 y2 u0 u1 u2 u3)
    | (refine wp_storeW rfl (.tmp 10) (.tmp 37) rfl w4.heap.size _ _ rfl rfl Z4.out rfl rfl (by simp [Value.oneCell']) ?_; intro w5 r9 k9 o9; have R5 := Lib.hid r9; have K5 : Hid (Kpt w w5) := k9 _ _ KZ4.out (Below.size K4.out); have KK5 : Hid (Kpt w4 w5) := k9 _ _ ((Kpt.refl w4).alloc _) (Nat.le_refl _); have KK35 : Hid (Kpt w3 w5) := ktr KK34.out KK5.out; have y0 : World.cell? w5 ⟨w1.heap.size, 0, none⟩ = some (.int .i64 T1) := (Blk.kpt (R2.out.kpt KK23.out) KK35.out).cell 0; have y1 : World.cell? w5 ⟨w1.heap.size, 1, none⟩ = some (.slice a1 nF c1) := (Blk.kpt (R2.out.kpt KK23.out) KK35.out).cell 1; have y2 : World.cell? w5 ⟨w1.heap.size, 2, none⟩ = some (.slice b1 B1.length d1) := (Blk.kpt (R2.out.kpt KK23.out) KK35.out).cell 2; have RF5 := Lib.hid (RF3.out.kpt KK35.out); have RP5 := Lib.hid (RP3.out.kpt KK35.out); clear r9 k9 o9)
    | (go_at_call 22; (with_reducible refine (A3 _ _ _ RF5.out RN3.out RP5.out).mono ?_); rintro e w6 ⟨fv1, bv1, dv1, rfl, of1, ob1, od1, k1⟩; have K6 : Hid (Kpt w w6) := ktr K5.out k1; have KW56 : Hid (Kpt w5 w6) := k1; have KK36 : Hid (Kpt w3 w6) := ktr KK35.out k1; have OF6 := Lib.hid of1; have OB6 := Lib.hid ob1; obtain ⟨a6, n6, c6, rfl, -⟩ := OwnsN.form of1; obtain ⟨b6, d6, rfl⟩ := OwnsP.form ob1; obtain ⟨g6, m6, h6, rfl, -⟩ := OwnsN.form od1; have Z6 : Hid (Blk (w6.alloc (.cells #[.int .i64 0, .slice none 0 0, .slice none 0 0] 31)) w6.heap.size #[.int .i64 0, .slice none 0 0, .slice none 0 0] 31) := Blk.made _ _ _; have KZ6 : Hid (Kpt w (w6.alloc (.cells #[.int .i64 0, .slice none 0 0, .slice none 0 0] 31))) := K6.out.alloc _; clear of1 ob1 od1 k1 A3 y0 y1 y2 RF5 RP5)
    | (refine wp_storeW rfl (.tmp 13) (.tmp 43) rfl w6.heap.size _ _ rfl rfl Z6.out rfl rfl (by simp [Value.oneCell']) ?_; intro w7 r9 k9 o9; have R7 := Lib.hid r9; have K7 : Hid (Kpt w w7) := k9 _ _ KZ6.out (Below.size K6.out); have KK7 : Hid (Kpt w6 w7) := k9 _ _ ((Kpt.refl w6).alloc _) (Nat.le_refl _); have KK37 : Hid (Kpt w3 w7) := ktr KK36.out KK7.out; have y0 : World.cell? w7 ⟨w6.heap.size, 0, none⟩ = some (.int .i64 T1) := (Blk.kpt R7.out (Kpt.refl _)).cell 0; have y1 : World.cell? w7 ⟨w6.heap.size, 1, none⟩ = some (.slice a6 n6 c6) := (Blk.kpt R7.out (Kpt.refl _)).cell 1; have y2 : World.cell? w7 ⟨w6.heap.size, 2, none⟩ = some (.slice b6 B1.length d6) := (Blk.kpt R7.out (Kpt.refl _)).cell 2; have u0 : World.cell? w7 ⟨w.heap.size, 0, none⟩ = some (.int .i64 W) := (B3.out.kpt (ktr KW3.out KK37.out)).cell 0; have u1 : World.cell? w7 ⟨w.heap.size, 1, none⟩ = some (.slice ah nh ch) := (B3.out.kpt (ktr KW3.out KK37.out)).cell 1; have u2 : World.cell? w7 ⟨w.heap.size, 2, none⟩ = some (.slice at' nt ct) := (B3.out.kpt (ktr KW3.out KK37.out)).cell 2; have u3 : World.cell? w7 ⟨w.heap.size, 3, none⟩ = some (.int .i64 X) := (B3.out.kpt (ktr KW3.out KK37.out)).cell 3; have RF7 : Hid (ReadsF w7 (.slice a6 n6 c6) G1) := OwnsN.readsF (OwnsN.kpt OF6.out KK7.out) GB.out; have RN7 : Hid (NilC (.slice a6 n6 c6)) := row_nil OF6.out; have RP7 : Hid (ReadsP w7 (.slice b6 B1.length d6) B1) := OwnsP.reads (row_kpt OB6.out KK7.out) IB.out; clear r9 k9 o9)
    | (go_at_call 11; (with_reducible refine (A4 _ _ _ K7.out RF7.out RN7.out RP7.out).mono ?_); rintro e w8 ⟨fv1, bv1, qv1, rfl, of1, ob1, oq1, k1⟩; have K8 : Hid (Kpt w w8) := ktr K7.out k1; have KW78 : Hid (Kpt w7 w8) := k1; have KK38 : Hid (Kpt w3 w8) := ktr KK37.out k1; have OB8 := Lib.hid ob1; have OQ8 := Lib.hid oq1; obtain ⟨a8, c8, rfl⟩ := formN 0 of1 rfl; obtain ⟨b8, d8, rfl⟩ := formQ 0 ob1 rfl; obtain ⟨g8, h8, rfl⟩ := formQ 0 oq1 rfl; have Z8 : Hid (Blk (w8.alloc (.cells #[.int .i64 0, .slice none 0 0, .slice none 0 0] 31)) w8.heap.size #[.int .i64 0, .slice none 0 0, .slice none 0 0] 31) := Blk.made _ _ _; have KZ8 : Hid (Kpt w (w8.alloc (.cells #[.int .i64 0, .slice none 0 0, .slice none 0 0] 31))) := K8.out.alloc _; clear of1 ob1 oq1 k1 A4 y0 y1 y2 u0 u1 u2 u3)
    | (refine wp_storeW rfl (.tmp 16) (.tmp 51) rfl w8.heap.size _ _ rfl rfl Z8.out rfl rfl (by simp [Value.oneCell']) ?_; intro w9 r9 k9 o9; have R9 := Lib.hid r9; have K9 : Hid (Kpt w w9) := k9 _ _ KZ8.out (Below.size K8.out); have KK9 : Hid (Kpt w8 w9) := k9 _ _ ((Kpt.refl w8).alloc _) (Nat.le_refl _); have KK39 : Hid (Kpt w3 w9) := ktr KK38.out KK9.out; clear r9 k9 o9)
    | fail)
  go_ret
  exact ⟨rfl, K9.out⟩

set_option maxRecDepth 100000 in
set_option maxHeartbeats 4000000 in
theorem con_ok (W X T : Int) (ah at' a ab : Option Addr) (nh ch nt ct n c nb cb : Nat) (pv : Value) (w : World) (T1 T2 : Int) (F1 G1 D1 F2 F4 : List (List Int)) (B1 B2 P1 P2 : List (Int × Int × Int)) (h60 : F1.length ≤ 60) (hl2 : F2.length = F1.length) (LK : ∀ k, k < F1.length → failEL (F1.getD k []) = 0 ∧ (opL (F1.getD k []) = 0 → F2.getD k [] = F1.getD k [])) (IB2 : Hid (InP B2)) (IP2 : Hid (InP P2))
    (FB : Hid (∀ l ∈ F1, FlB l)) (GB : Hid (∀ l ∈ G1, FlB l)) (IB : Hid (InP B1))
    (A1 : ∀ w', Kpt w w' → Calls Tryz.prog 11 #[.agg #[.int .i64 W, .slice ah nh ch, .slice at' nt ct, .int .i64 X], .agg #[.int .i64 T, .slice a n c, .slice ab nb cb], pv] w' (NtRes w' 0 T1 F1 B1 P1))
    (A2 : ∀ w' v1 b1, Kpt w w' → ReadsF w' v1 F1 → NilC v1 → ReadsP w' b1 B1 → Calls Tryz.prog 11 #[.agg #[.int .i64 W, .slice ah nh ch, .slice at' nt ct, .int .i64 X], .agg #[.int .i64 T1, v1, b1], pv] w' (NtRes w' 0 T2 F2 B2 P2))
    (A3 : ∀ w' v1 b1, ReadsF w' v1 F1 → NilC v1 → ReadsP w' b1 B1 → Calls Tryz.prog 22 #[.agg #[.int .i64 T1, v1, b1]] w' (TdRes w' 0 T1 G1 B1 D1))
    (A4 : ∀ w' v1 b1, Kpt w w' → ReadsF w' v1 G1 → NilC v1 → ReadsP w' b1 B1 → Calls Tryz.prog 11 #[.agg #[.int .i64 W, .slice ah nh ch, .slice at' nt ct, .int .i64 X], .agg #[.int .i64 T1, v1, b1], pv] w' (NtRes w' 0 T2 F4 B2 P2)) : Calls Tryz.prog 7 #[.agg #[.int .i64 W, .slice ah nh ch, .slice at' nt ct, .int .i64 X], .agg #[.int .i64 T, .slice a n c, .slice ab nb cb], pv] w fun e w' => e = .returned (.bool true) ∧ Kpt w w' := by
  obtain ⟨nF, hF'⟩ : ∃ n, n = F1.length := ⟨_, rfl⟩
  have HNF := Lib.hid hF'
  rw [← hF'] at h60 hl2 LK
  clear hF'
  have H60 := Lib.hid h60
  have HL2 := Lib.hid hl2
  have HLK := Lib.hid LK
  clear h60 hl2 LK
  have mixed : Tryz.prog.follows .mixedOrders = true := by kernel_rfl
  have K3 : Hid (Kpt w ((w.alloc (.cells #[.int .i64 W, .slice ah nh ch, .slice at' nt ct, .int .i64 X] 27)).alloc (.cells #[.int .i64 T, .slice a n c, .slice ab nb cb] 31))) := ((Kpt.refl w).alloc _).alloc _
  have B3 : Hid (Blk ((w.alloc (.cells #[.int .i64 W, .slice ah nh ch, .slice at' nt ct, .int .i64 X] 27)).alloc (.cells #[.int .i64 T, .slice a n c, .slice ab nb cb] 31)) w.heap.size #[.int .i64 W, .slice ah nh ch, .slice at' nt ct, .int .i64 X] 27) := (Blk.made w _ _).alloc _
  go_enter Tryz.func7, Tryz.ntmps7
  go_upto_region 13 with (first
    | (go_at_call 11; (with_reducible refine (A1 _ K3.out).mono ?_); rintro e w1 ⟨fv1, bv1, qv1, rfl, of1, ob1, oq1, k1⟩; have K1 : Hid (Kpt w w1) := ktr K3.out k1; have KW1 : Hid (Kpt ((w.alloc (.cells #[.int .i64 W, .slice ah nh ch, .slice at' nt ct, .int .i64 X] 27)).alloc (.cells #[.int .i64 T, .slice a n c, .slice ab nb cb] 31)) w1) := k1; have OF1 := Lib.hid of1; have OB1 := Lib.hid ob1; obtain ⟨a1, c1, rfl⟩ := formN nF of1 HNF.out.symm; obtain ⟨b1, d1, rfl⟩ := OwnsP.form ob1; obtain ⟨g1, h1, rfl⟩ := OwnsP.form oq1; have Z1 : Hid (Blk (w1.alloc (.cells #[.int .i64 0, .slice none 0 0, .slice none 0 0] 31)) w1.heap.size #[.int .i64 0, .slice none 0 0, .slice none 0 0] 31) := Blk.made _ _ _; have KZ1 : Hid (Kpt w (w1.alloc (.cells #[.int .i64 0, .slice none 0 0, .slice none 0 0] 31))) := K1.out.alloc _; clear of1 ob1 oq1 k1 A1)
    | (refine wp_storeW rfl (.tmp 7) (.tmp 25) rfl w1.heap.size _ _ rfl rfl Z1.out rfl rfl (by simp [Value.oneCell']) ?_; intro w2 r9 k9 o9; have R2 := Lib.hid r9; have K2 : Hid (Kpt w w2) := k9 _ _ KZ1.out (Below.size K1.out); have KK2 : Hid (Kpt w1 w2) := k9 _ _ ((Kpt.refl w1).alloc _) (Nat.le_refl _); clear r9 k9 o9)
    | (go_at_call 13; (with_reducible refine (cycleBegun_run _).mono ?_); rintro e w3 ⟨rfl, kk⟩; have KK3 : Hid (Kpt w1 w3) := ktr KK2.out kk; have K3b : Hid (Kpt w w3) := ktr K2.out kk; have KK23 : Hid (Kpt w2 w3) := kk; have y0 : World.cell? w3 ⟨w1.heap.size, 0, none⟩ = some (.int .i64 T1) := (Blk.kpt R2.out KK23.out).cell 0; have y1 : World.cell? w3 ⟨w1.heap.size, 1, none⟩ = some (.slice a1 nF c1) := (Blk.kpt R2.out KK23.out).cell 1; have y2 : World.cell? w3 ⟨w1.heap.size, 2, none⟩ = some (.slice b1 B1.length d1) := (Blk.kpt R2.out KK23.out).cell 2; have u0 : World.cell? w3 ⟨w.heap.size, 0, none⟩ = some (.int .i64 W) := (B3.out.kpt (ktr KW1.out KK3.out)).cell 0; have u1 : World.cell? w3 ⟨w.heap.size, 1, none⟩ = some (.slice ah nh ch) := (B3.out.kpt (ktr KW1.out KK3.out)).cell 1; have u2 : World.cell? w3 ⟨w.heap.size, 2, none⟩ = some (.slice at' nt ct) := (B3.out.kpt (ktr KW1.out KK3.out)).cell 2; have u3 : World.cell? w3 ⟨w.heap.size, 3, none⟩ = some (.int .i64 X) := (B3.out.kpt (ktr KW1.out KK3.out)).cell 3; have KW3 : Hid (Kpt ((w.alloc (.cells #[.int .i64 W, .slice ah nh ch, .slice at' nt ct, .int .i64 X] 27)).alloc (.cells #[.int .i64 T, .slice a n c, .slice ab nb cb] 31)) w3) := ktr KW1.out KK3.out; have RF3 : Hid (ReadsF w3 (.slice a1 nF c1) F1) := OwnsN.readsF (OwnsN.kpt OF1.out KK3.out) FB.out; have RN3 : Hid (NilC (.slice a1 nF c1)) := row_nil OF1.out; have RP3 : Hid (ReadsP w3 (.slice b1 B1.length d1) B1) := OwnsP.reads (row_kpt OB1.out KK3.out) IB.out; clear kk)
    | (go_at_call 11; (with_reducible refine (A2 _ _ _ K3b.out RF3.out RN3.out RP3.out).mono ?_); rintro e w4 ⟨fv1, bv1, qv1, rfl, of1, ob1, oq1, k1⟩; have K4 : Hid (Kpt w w4) := ktr K3b.out k1; have KK34 : Hid (Kpt w3 w4) := k1; have OF4 := Lib.hid of1; have OB4 := Lib.hid ob1; have OQ4 := Lib.hid oq1; obtain ⟨a4, c4, rfl⟩ := formN nF of1 HL2.out; obtain ⟨b4, d4, rfl⟩ := OwnsP.form ob1; obtain ⟨g4, h4, rfl⟩ := OwnsP.form oq1; have Z4 : Hid (Blk (w4.alloc (.cells #[.int .i64 0, .slice none 0 0, .slice none 0 0] 31)) w4.heap.size #[.int .i64 0, .slice none 0 0, .slice none 0 0] 31) := Blk.made _ _ _; have KZ4 : Hid (Kpt w (w4.alloc (.cells #[.int .i64 0, .slice none 0 0, .slice none 0 0] 31))) := K4.out.alloc _; clear of1 ob1 oq1 k1 A2 y0 y1 y2 u0 u1 u2 u3)
    | (refine wp_storeW rfl (.tmp 10) (.tmp 37) rfl w4.heap.size _ _ rfl rfl Z4.out rfl rfl (by simp [Value.oneCell']) ?_; intro w5 r9 k9 o9; have R5 := Lib.hid r9; have K5 : Hid (Kpt w w5) := k9 _ _ KZ4.out (Below.size K4.out); have KK5 : Hid (Kpt w4 w5) := k9 _ _ ((Kpt.refl w4).alloc _) (Nat.le_refl _); have KK35 : Hid (Kpt w3 w5) := ktr KK34.out KK5.out; have y0 : World.cell? w5 ⟨w1.heap.size, 0, none⟩ = some (.int .i64 T1) := (Blk.kpt (R2.out.kpt KK23.out) KK35.out).cell 0; have y1 : World.cell? w5 ⟨w1.heap.size, 1, none⟩ = some (.slice a1 nF c1) := (Blk.kpt (R2.out.kpt KK23.out) KK35.out).cell 1; have y2 : World.cell? w5 ⟨w1.heap.size, 2, none⟩ = some (.slice b1 B1.length d1) := (Blk.kpt (R2.out.kpt KK23.out) KK35.out).cell 2; have RF5 := Lib.hid (RF3.out.kpt KK35.out); have RP5 := Lib.hid (RP3.out.kpt KK35.out); clear r9 k9 o9)
    | (go_at_call 22; (with_reducible refine (A3 _ _ _ RF5.out RN3.out RP5.out).mono ?_); rintro e w6 ⟨fv1, bv1, dv1, rfl, of1, ob1, od1, k1⟩; have K6 : Hid (Kpt w w6) := ktr K5.out k1; have KW56 : Hid (Kpt w5 w6) := k1; have KK36 : Hid (Kpt w3 w6) := ktr KK35.out k1; have OF6 := Lib.hid of1; have OB6 := Lib.hid ob1; obtain ⟨a6, n6, c6, rfl, -⟩ := OwnsN.form of1; obtain ⟨b6, d6, rfl⟩ := OwnsP.form ob1; obtain ⟨g6, m6, h6, rfl, -⟩ := OwnsN.form od1; have Z6 : Hid (Blk (w6.alloc (.cells #[.int .i64 0, .slice none 0 0, .slice none 0 0] 31)) w6.heap.size #[.int .i64 0, .slice none 0 0, .slice none 0 0] 31) := Blk.made _ _ _; have KZ6 : Hid (Kpt w (w6.alloc (.cells #[.int .i64 0, .slice none 0 0, .slice none 0 0] 31))) := K6.out.alloc _; clear of1 ob1 od1 k1 A3 y0 y1 y2 RF5 RP5)
    | (refine wp_storeW rfl (.tmp 13) (.tmp 43) rfl w6.heap.size _ _ rfl rfl Z6.out rfl rfl (by simp [Value.oneCell']) ?_; intro w7 r9 k9 o9; have R7 := Lib.hid r9; have K7 : Hid (Kpt w w7) := k9 _ _ KZ6.out (Below.size K6.out); have KK7 : Hid (Kpt w6 w7) := k9 _ _ ((Kpt.refl w6).alloc _) (Nat.le_refl _); have KK37 : Hid (Kpt w3 w7) := ktr KK36.out KK7.out; have y0 : World.cell? w7 ⟨w6.heap.size, 0, none⟩ = some (.int .i64 T1) := (Blk.kpt R7.out (Kpt.refl _)).cell 0; have y1 : World.cell? w7 ⟨w6.heap.size, 1, none⟩ = some (.slice a6 n6 c6) := (Blk.kpt R7.out (Kpt.refl _)).cell 1; have y2 : World.cell? w7 ⟨w6.heap.size, 2, none⟩ = some (.slice b6 B1.length d6) := (Blk.kpt R7.out (Kpt.refl _)).cell 2; have u0 : World.cell? w7 ⟨w.heap.size, 0, none⟩ = some (.int .i64 W) := (B3.out.kpt (ktr KW3.out KK37.out)).cell 0; have u1 : World.cell? w7 ⟨w.heap.size, 1, none⟩ = some (.slice ah nh ch) := (B3.out.kpt (ktr KW3.out KK37.out)).cell 1; have u2 : World.cell? w7 ⟨w.heap.size, 2, none⟩ = some (.slice at' nt ct) := (B3.out.kpt (ktr KW3.out KK37.out)).cell 2; have u3 : World.cell? w7 ⟨w.heap.size, 3, none⟩ = some (.int .i64 X) := (B3.out.kpt (ktr KW3.out KK37.out)).cell 3; have RF7 : Hid (ReadsF w7 (.slice a6 n6 c6) G1) := OwnsN.readsF (OwnsN.kpt OF6.out KK7.out) GB.out; have RN7 : Hid (NilC (.slice a6 n6 c6)) := row_nil OF6.out; have RP7 : Hid (ReadsP w7 (.slice b6 B1.length d6) B1) := OwnsP.reads (row_kpt OB6.out KK7.out) IB.out; clear r9 k9 o9)
    | (go_at_call 11; (with_reducible refine (A4 _ _ _ K7.out RF7.out RN7.out RP7.out).mono ?_); rintro e w8 ⟨fv1, bv1, qv1, rfl, of1, ob1, oq1, k1⟩; have K8 : Hid (Kpt w w8) := ktr K7.out k1; have KW78 : Hid (Kpt w7 w8) := k1; have KK38 : Hid (Kpt w3 w8) := ktr KK37.out k1; have OB8 := Lib.hid ob1; have OQ8 := Lib.hid oq1; obtain ⟨a8, n8, c8, rfl, -⟩ := OwnsN.form of1; obtain ⟨b8, d8, rfl⟩ := OwnsP.form ob1; obtain ⟨g8, h8, rfl⟩ := OwnsP.form oq1; have Z8 : Hid (Blk (w8.alloc (.cells #[.int .i64 0, .slice none 0 0, .slice none 0 0] 31)) w8.heap.size #[.int .i64 0, .slice none 0 0, .slice none 0 0] 31) := Blk.made _ _ _; have KZ8 : Hid (Kpt w (w8.alloc (.cells #[.int .i64 0, .slice none 0 0, .slice none 0 0] 31))) := K8.out.alloc _; clear of1 ob1 oq1 k1 A4 y0 y1 y2 u0 u1 u2 u3)
    | (refine wp_storeW rfl (.tmp 16) (.tmp 51) rfl w8.heap.size _ _ rfl rfl Z8.out rfl rfl (by simp [Value.oneCell']) ?_; intro w9 r9 k9 o9; have R9 := Lib.hid r9; have K9 : Hid (Kpt w w9) := k9 _ _ KZ8.out (Below.size K8.out); have KK9 : Hid (Kpt w8 w9) := k9 _ _ ((Kpt.refl w8).alloc _) (Nat.le_refl _); have KK39 : Hid (Kpt w3 w9) := ktr KK38.out KK9.out; clear r9 k9 o9)
    | fail)
  have KK59 : Hid (Kpt w5 w9) := ktr KW56.out (ktr KK7.out (ktr KW78.out KK9.out))
  have BX : Hid (Blk w9 w1.heap.size #[.int .i64 T1, .slice a1 nF c1, .slice b1 B1.length d1] 31) := (R2.out.kpt KK23.out).kpt KK39.out
  have BY : Hid (Blk w9 w4.heap.size #[.int .i64 T2, .slice a4 nF c4, .slice b4 B2.length d4] 31) := R5.out.kpt KK59.out
  have BZ : Hid (Blk w9 w8.heap.size #[.int .i64 T2, .slice a8 n8 c8, .slice b8 B2.length d8] 31) := R9.out
  have OX := OwnsN.kpt OF1.out (ktr KK3.out KK39.out)
  have OY := OwnsN.kpt OF4.out (ktr KK5.out KK59.out)
  have RQ : Hid (ReadsP w9 (.slice g4 P2.length h4) P2) := OwnsP.reads (row_kpt OQ4.out (ktr KK5.out KK59.out)) IP2.out
  have RZ : Hid (ReadsP w9 (.slice g8 P2.length h8) P2) := OwnsP.reads (row_kpt OQ8.out KK9.out) IP2.out
  have RY : Hid (ReadsP w9 (.slice b4 B2.length d4) B2) := OwnsP.reads (row_kpt OB4.out (ktr KK5.out KK59.out)) IB2.out
  have RW : Hid (ReadsP w9 (.slice b8 B2.length d8) B2) := OwnsP.reads (row_kpt OB8.out KK9.out) IB2.out
  have HX : Hid (∀ k, k < nF → ∃ g, a1 = some ⟨g, 0, none⟩ ∧ ∀ j, j < 10 → w9.cell? ⟨g, k * 10 + j, none⟩ = some (.int .i64 ((F1.getD k []).getD j 0))) := fun k hk => by
    obtain ⟨a', cap', e, -, hc⟩ := OwnsN.cells OX
    injection e with e1 e2 e3
    obtain ⟨g, e', h'⟩ := hc k (by rw [← HNF.out]; exact hk)
    exact ⟨g, e1.trans e', h'⟩
  have HY : Hid (∀ k, k < nF → ∃ g, a4 = some ⟨g, 0, none⟩ ∧ ∀ j, j < 10 → w9.cell? ⟨g, k * 10 + j, none⟩ = some (.int .i64 ((F2.getD k []).getD j 0))) := fun k hk => by
    obtain ⟨a', cap', e, -, hc⟩ := OwnsN.cells OY
    injection e with e1 e2 e3
    obtain ⟨g, e', h'⟩ := hc k (by rw [HL2.out]; exact hk)
    exact ⟨g, e1.trans e', h'⟩
  have SP1 := Lib.hid (fun w' (k : Kpt w9 w') => sameP_any _ _ _ w' (RZ.out.kpt k) (RQ.out.kpt k))
  have SP2 := Lib.hid (fun w' (k : Kpt w9 w') => sameP_any _ _ _ w' (RY.out.kpt k) (RW.out.kpt k))
  have tt : (T2 == T2) = true := beq_self_eq_true T2
  clear OX OY RQ RZ RY RW K1 KW1 OF1 OB1 Z1 KZ1 R2 K2 KK2 KK3 K3b KK23 KW3 RF3 RN3 RP3 K4 KK34 OF4 OB4 OQ4 Z4 KZ4 R5 K5 KK5 KK35 K6 KW56 KK36 OF6 OB6 Z6 KZ6 R7 K7 KK7 KK37 RF7 RN7 RP7 K8 KW78 KK38 OB8 OQ8 Z8 KZ8 R9 KK9 KK39 KK59 K3 B3
  go_wp2
  go_loopw [19] (fun ii wr => ∃ k : Nat, k ≤ nF ∧ ii = .int .i64 (k : Int) ∧ Hid (Kpt w9 wr)) (fun ii _ => nF - (intOf ii).toNat)
  case atStart => exact ⟨0, Nat.zero_le _, rfl, Kpt.refl _⟩
  case round =>
    obtain ⟨k, hk, rfl, HK⟩ := hrel
    have x1 : World.cell? wr ⟨w1.heap.size, 1, none⟩ = some (.slice a1 nF c1) := (BX.out.kpt HK.out).cell 1
    by_cases hlt : k < nF
    · obtain ⟨g, rfl, hc⟩ := HX.out k hlt
      obtain ⟨g2, rfl, hd⟩ := HY.out k hlt
      obtain ⟨e1, e2⟩ := HLK.out k hlt
      clear HX HY HLK SP1 SP2
      generalize F2.getD k [] = m at *
      generalize F1.getD k [] = l at *
      have fb := fail_0 (show failE _ _ _ _ _ _ _ _ _ _ = 0 from e1)
      have fd := fdue_t fb.1
      have ft := ftk_t fb.2.2.1
      have RO := Lib.hid (fun w' => rfo_run (l.getD 0 0) (l.getD 1 0) (l.getD 2 0) (l.getD 3 0) (l.getD 4 0) (l.getD 5 0) (l.getD 6 0) (l.getD 7 0) (l.getD 8 0) (l.getD 9 0) w' fd.2.2.2.2.2 ft.1 ft.2.1 ft.2.2)
      have oe : l.getD 6 0 - l.getD 7 0 - l.getD 8 0 - l.getD 9 0 = opL l := by
        show _ = openV _ _ _ _ _ _ _ _ _ _
        unfold openV
        rw [if_pos (show failE _ _ _ _ _ _ _ _ _ _ = 0 from e1)]
      rw [oe] at RO
      have c0 := hc 0 (by decide)
      have c1_ := hc 1 (by decide)
      have c2_ := hc 2 (by decide)
      have c3_ := hc 3 (by decide)
      have c4_ := hc 4 (by decide)
      have c5_ := hc 5 (by decide)
      have c6_ := hc 6 (by decide)
      have c7_ := hc 7 (by decide)
      have c8_ := hc 8 (by decide)
      have c9_ := hc 9 (by decide)
      have q1 : decide ((k : Int) < (nF : Int)) = true := decide_eq_true (by omega)
      have i0 : (0 : Int) ≤ (k : Int) := by omega
      have i1 : (k : Int) < (nF : Int) := by omega
      have m0 : IntKind.i64.wrap ((k : Int) + 1) = (k : Int) + 1 := IntWalk.i64_in _ (by have := H60.out; omega)
      have s1 := cell_k (q := wr) x1
      have s2 := cell_k (q := wr) (a := ⟨w4.heap.size, 1, none⟩) (v := .slice (some ⟨g2, 0, none⟩) nF c4) ((BY.out.kpt HK.out).cell 1)
      have fin : ∀ w8, Kpt wr w8 → Hid (Kpt w9 w8) := fun w8 kk => ktr HK.out kk
      clear hc e1 fb fd ft oe
      by_cases ho : opL l = 0
      · obtain rfl := e2 ho
        have qz : (opL m == 0) = true := beq_iff_eq.2 ho
        have eq := neqF (m.getD 0 0) (m.getD 1 0) (m.getD 2 0) (m.getD 3 0) (m.getD 4 0) (m.getD 5 0) (m.getD 6 0) (m.getD 7 0) (m.getD 8 0) (m.getD 9 0)
        have d0 := hd 0 (by decide)
        have d1_ := hd 1 (by decide)
        have d2_ := hd 2 (by decide)
        have d3_ := hd 3 (by decide)
        have d4_ := hd 4 (by decide)
        have d5_ := hd 5 (by decide)
        have d6_ := hd 6 (by decide)
        have d7_ := hd 7 (by decide)
        have d8_ := hd 8 (by decide)
        have d9_ := hd 9 (by decide)
        clear hd ho e2
        generalize opL m = o at *
        generalize m.getD 0 0 = z0 at *
        generalize m.getD 1 0 = z1 at *
        generalize m.getD 2 0 = z2 at *
        generalize m.getD 3 0 = z3 at *
        generalize m.getD 4 0 = z4 at *
        generalize m.getD 5 0 = z5 at *
        generalize m.getD 6 0 = z6 at *
        generalize m.getD 7 0 = z7 at *
        generalize m.getD 8 0 = z8 at *
        generalize m.getD 9 0 = z9 at *
        have ck0 := cell_k (q := wr) (a := ⟨g, k * 10, none⟩) (v := .int .i64 z0) (HK.out.cell c0)
        have ck1 := cell_k (q := wr) (a := ⟨g, k * 10 + 1, none⟩) (v := .int .i64 z1) (HK.out.cell c1_)
        have ck2 := cell_k (q := wr) (a := ⟨g, k * 10 + 2, none⟩) (v := .int .i64 z2) (HK.out.cell c2_)
        have ck3 := cell_k (q := wr) (a := ⟨g, k * 10 + 3, none⟩) (v := .int .i64 z3) (HK.out.cell c3_)
        have ck4 := cell_k (q := wr) (a := ⟨g, k * 10 + 4, none⟩) (v := .int .i64 z4) (HK.out.cell c4_)
        have ck5 := cell_k (q := wr) (a := ⟨g, k * 10 + 5, none⟩) (v := .int .i64 z5) (HK.out.cell c5_)
        have ck6 := cell_k (q := wr) (a := ⟨g, k * 10 + 6, none⟩) (v := .int .i64 z6) (HK.out.cell c6_)
        have ck7 := cell_k (q := wr) (a := ⟨g, k * 10 + 7, none⟩) (v := .int .i64 z7) (HK.out.cell c7_)
        have ck8 := cell_k (q := wr) (a := ⟨g, k * 10 + 8, none⟩) (v := .int .i64 z8) (HK.out.cell c8_)
        have ck9 := cell_k (q := wr) (a := ⟨g, k * 10 + 9, none⟩) (v := .int .i64 z9) (HK.out.cell c9_)
        have dk0 := cell_k (q := wr) (a := ⟨g2, k * 10, none⟩) (v := .int .i64 z0) (HK.out.cell d0)
        have dk1 := cell_k (q := wr) (a := ⟨g2, k * 10 + 1, none⟩) (v := .int .i64 z1) (HK.out.cell d1_)
        have dk2 := cell_k (q := wr) (a := ⟨g2, k * 10 + 2, none⟩) (v := .int .i64 z2) (HK.out.cell d2_)
        have dk3 := cell_k (q := wr) (a := ⟨g2, k * 10 + 3, none⟩) (v := .int .i64 z3) (HK.out.cell d3_)
        have dk4 := cell_k (q := wr) (a := ⟨g2, k * 10 + 4, none⟩) (v := .int .i64 z4) (HK.out.cell d4_)
        have dk5 := cell_k (q := wr) (a := ⟨g2, k * 10 + 5, none⟩) (v := .int .i64 z5) (HK.out.cell d5_)
        have dk6 := cell_k (q := wr) (a := ⟨g2, k * 10 + 6, none⟩) (v := .int .i64 z6) (HK.out.cell d6_)
        have dk7 := cell_k (q := wr) (a := ⟨g2, k * 10 + 7, none⟩) (v := .int .i64 z7) (HK.out.cell d7_)
        have dk8 := cell_k (q := wr) (a := ⟨g2, k * 10 + 8, none⟩) (v := .int .i64 z8) (HK.out.cell d8_)
        have dk9 := cell_k (q := wr) (a := ⟨g2, k * 10 + 9, none⟩) (v := .int .i64 z9) (HK.out.cell d9_)
        go_upto_region 16 with fail
        refine quiet_k (q := wr) mixed (by kernel_rfl) ?_
        repeat (go_big_quiet_step (first | (go_at_call 35; with_reducible refine calls_k (RO.out _)) | fail))
        refine wpQuiet_nil ?_
        intro w8' hw1
        obtain ⟨⟨wz, kz⟩, hw2⟩ := hw1
        have hw3 : w8' = wz := hw2
        clear hw2
        subst hw3
        have K8' := fin _ kz
        clear kz
        go_wp2
        go_roundw
        case rel => exact ⟨k + 1, by omega, by go_num, K8'.out⟩
        case measure => simp [intOf]; omega
      · have qz : (opL l == 0) = false := beq_eq_false_iff_ne.2 ho
        clear ho hd e2
        generalize opL l = o at *
        generalize l.getD 0 0 = z0 at *
        generalize l.getD 1 0 = z1 at *
        generalize l.getD 2 0 = z2 at *
        generalize l.getD 3 0 = z3 at *
        generalize l.getD 4 0 = z4 at *
        generalize l.getD 5 0 = z5 at *
        generalize l.getD 6 0 = z6 at *
        generalize l.getD 7 0 = z7 at *
        generalize l.getD 8 0 = z8 at *
        generalize l.getD 9 0 = z9 at *
        have ck0 := cell_k (q := wr) (a := ⟨g, k * 10, none⟩) (v := .int .i64 z0) (HK.out.cell c0)
        have ck1 := cell_k (q := wr) (a := ⟨g, k * 10 + 1, none⟩) (v := .int .i64 z1) (HK.out.cell c1_)
        have ck2 := cell_k (q := wr) (a := ⟨g, k * 10 + 2, none⟩) (v := .int .i64 z2) (HK.out.cell c2_)
        have ck3 := cell_k (q := wr) (a := ⟨g, k * 10 + 3, none⟩) (v := .int .i64 z3) (HK.out.cell c3_)
        have ck4 := cell_k (q := wr) (a := ⟨g, k * 10 + 4, none⟩) (v := .int .i64 z4) (HK.out.cell c4_)
        have ck5 := cell_k (q := wr) (a := ⟨g, k * 10 + 5, none⟩) (v := .int .i64 z5) (HK.out.cell c5_)
        have ck6 := cell_k (q := wr) (a := ⟨g, k * 10 + 6, none⟩) (v := .int .i64 z6) (HK.out.cell c6_)
        have ck7 := cell_k (q := wr) (a := ⟨g, k * 10 + 7, none⟩) (v := .int .i64 z7) (HK.out.cell c7_)
        have ck8 := cell_k (q := wr) (a := ⟨g, k * 10 + 8, none⟩) (v := .int .i64 z8) (HK.out.cell c8_)
        have ck9 := cell_k (q := wr) (a := ⟨g, k * 10 + 9, none⟩) (v := .int .i64 z9) (HK.out.cell c9_)
        go_upto_region 16 with fail
        refine quiet_k (q := wr) mixed (by kernel_rfl) ?_
        repeat (go_big_quiet_step (first | (go_at_call 35; with_reducible refine calls_k (RO.out _)) | fail))
        refine wpQuiet_nil ?_
        intro w8' hw1
        obtain ⟨⟨wz, kz⟩, hw2⟩ := hw1
        have hw3 : w8' = wz := hw2
        clear hw2
        subst hw3
        have K8' := fin _ kz
        clear kz
        go_wp2
        go_roundw
        case rel => exact ⟨k + 1, by omega, by go_num, K8'.out⟩
        case measure => simp [intOf]; omega
    · obtain rfl : k = nF := by omega
      have q1 : decide ((k : Int) < (k : Int)) = false := decide_eq_false (by omega)
      clear HX HY HLK
      go_wp2_with (first
        | (go_at_call 19; (with_reducible refine (SP1.out _ HK.out).mono ?_); rintro z w10 ⟨rfl, kk⟩; have K10 : Hid (Kpt w9 w10) := ktr HK.out kk; have y2 : World.cell? w10 ⟨w4.heap.size, 2, none⟩ = some (.slice b4 B2.length d4) := (BY.out.kpt K10.out).cell 2; have z2 : World.cell? w10 ⟨w8.heap.size, 2, none⟩ = some (.slice b8 B2.length d8) := (BZ.out.kpt K10.out).cell 2; clear kk SP1)
        | (go_at_call 19; (with_reducible refine (SP2.out _ K10.out).mono ?_); rintro z w11 ⟨rfl, kk⟩; have K11 : Hid (Kpt w9 w11) := ktr K10.out kk; have y0 : World.cell? w11 ⟨w4.heap.size, 0, none⟩ = some (.int .i64 T2) := (BY.out.kpt K11.out).cell 0; have z0 : World.cell? w11 ⟨w8.heap.size, 0, none⟩ = some (.int .i64 T2) := (BZ.out.kpt K11.out).cell 0; clear kk SP2)
        | fail)
      go_ret
      exact ⟨rfl, ktr K9.out K11.out⟩

theorem flB_fail {l : List Int} (h : failEL l = 0) : FlB l := by
  have fb := fail_0 (show failE _ _ _ _ _ _ _ _ _ _ = 0 from h)
  have fd := fdue_t fb.1
  have ft := ftk_t fb.2.2.1
  intro j hj
  rcases (show j = 0 ∨ j = 1 ∨ j = 2 ∨ j = 3 ∨ j = 4 ∨ j = 5 ∨ j = 6 ∨ j = 7 ∨ j = 8 ∨ j = 9 by omega) with rfl | rfl | rfl | rfl | rfl | rfl | rfl | rfl | rfl | rfl <;> omega
theorem inp_lin {b : List (Int × Int × Int)} (h : linE b = 0) : InP b := inP_of (strict_pt (lin_0 h).2.1)
theorem ck_fail {fs : List (List Int)} (h : checksE fs = 0) : ∀ l ∈ fs, failEL l = 0 := by
  unfold checksE at h
  split at h
  · cases h
  · exact (ids_ok.1 h).1
theorem cmF_at {W : Int} {hs : List Int} {ts : List (List Int)} {q : Int} {fs : List (List Int)} {k : Nat} (h : k < fs.length) : (cmF W hs ts q fs).getD k [] = cmG W hs ts q (fs.getD k []) := by
  unfold cmF
  rw [List.getD_eq_getElem?_getD, List.getD_eq_getElem?_getD, List.getElem?_map, List.getElem?_eq_getElem h]
  rfl
theorem conce_plain (W X T : Int) (pv hv tv : Value) (hs : List Int) (ts : List (List Int)) (fv bv : Value) (fs : List (List Int)) (b : List (Int × Int × Int)) (ps : List Int) (w : World) (hr : Reads w hv hs) (hf : Fits hs) (ht : ReadsT w tv ts) (hF : ReadsF w fv fs) (hn : NilC fv) (hb : ReadsP w bv b) (hp : Reads w pv ps) :
    Calls Tryz.prog 7 #[.agg #[.int .i64 W, hv, tv, .int .i64 X], .agg #[.int .i64 T, fv, bv], pv] w fun e w' => e = .returned (.bool true) ∧ Kpt w w' := by
  have A1 := fun w' (k : Kpt w w') => night_any W X T hv tv pv fv bv hs ps ts fs b w' (hr.kpt k) hf (ht.kpt k) (hp.kpt k) (hF.kpt k) hn (hb.kpt k)
  have NG := fun T1 F1 B1 w' v1 b1 (k : Kpt w w') (r1 : ReadsF w' v1 F1) (r2 : NilC v1) (r3 : ReadsP w' b1 B1) => night_any W X T1 hv tv pv v1 b1 hs ps ts F1 B1 w' (hr.kpt k) hf (ht.kpt k) (hp.kpt k) r1 r2 r3
  obtain ⟨ah, ch, rfl, -⟩ := _root_.id hr
  obtain ⟨at', ct, rfl, -⟩ := _root_.id ht
  obtain ⟨a, c, rfl, -⟩ := _root_.id hF
  obtain ⟨ab, cb, rfl, -⟩ := _root_.id hb
  by_cases h : ntE W hs ts X fs ps T b = 0
  · obtain ⟨h1, h2, -, h4, h5⟩ := nt_0 h
    have hw := nt_wld h
    have on := once_nt h
    rw [h, show ntT W hs ts X fs ps T b = steR W hs T 1 from if_pos h, show ntF W hs ts X fs ps T b = cmF W hs ts T fs from if_pos h, show ntB W hs ts X fs ps T b = nigB W hs ts X fs ps T b from if_pos h] at A1
    have hl : ∀ l ∈ cmF W hs ts T fs, failEL l = 0 := ck_fail (wld_0 hw).2.1
    have l60 := ck60 (wld_0 hw).2.1
    have hB := inp_lin (wld_0 hw).2.2
    generalize steR W hs T 1 = T1 at *
    generalize cmF W hs ts T fs = F1 at *
    generalize nigB W hs ts X fs ps T b = B1 at *
    generalize ntP W hs ts X fs ps T b = P1 at *
    have A3 := fun w' v1 b1 (r1 : ReadsF w' v1 F1) (r2 : NilC v1) (r3 : ReadsP w' b1 B1) => tidy_any T1 v1 b1 F1 B1 w' r1 r2 r3
    rw [hw, show tdT T1 F1 B1 = T1 from if_pos hw, show tdF T1 F1 B1 = opnF F1 from if_pos hw, show tdB T1 F1 B1 = B1 from if_pos hw, show tdD T1 F1 B1 = donF F1 from if_pos hw] at A3
    have A2 := NG T1 F1 B1
    have A4 := NG T1 (opnF F1) B1
    rw [on.1, on.2.1, on.2.2.1, on.2.2.2] at A4
    have FB : ∀ l ∈ F1, FlB l := fun l hl' => flB_fail (hl l hl')
    have GB : ∀ l ∈ opnF F1, FlB l := fun l hl' => FB l ((show (opnF F1).Sublist F1 from List.filter_sublist).subset hl')
    by_cases h6 : ntE W hs ts X F1 ps T1 B1 = 0
    · have hw2 := nt_wld h6
      have nb := nt_book h6
      rw [h6] at A2 A4
      refine con_ok W X T ah at' a ab hs.length ch ts.length ct fs.length c b.length cb pv w T1 _ F1 (opnF F1) (donF F1) _ _ B1 _ P1 _ l60 ?_ (fun k hk => ⟨hl _ (getF_mem hk), fun ho => ?_⟩) ?_ ?_ FB GB hB A1 A2 A3 A4
      · rw [show ntF W hs ts X F1 ps T1 B1 = cmF W hs ts T1 F1 from if_pos h6]
        unfold cmF
        rw [List.length_map]
      · rw [show ntF W hs ts X F1 ps T1 B1 = cmF W hs ts T1 F1 from if_pos h6, cmF_at hk]
        exact if_neg (st_closed ho).1
      · rw [show ntB W hs ts X F1 ps T1 B1 = nigB W hs ts X F1 ps T1 B1 from if_pos h6]
        exact inp_lin nb.1
      · rw [show ntP W hs ts X F1 ps T1 B1 = nigP W hs ts X F1 ps T1 B1 from if_pos h6]
        exact inP_of nb.2.1
    · rw [show ntT W hs ts X F1 ps T1 B1 = 0 from if_neg h6, show ntF W hs ts X F1 ps T1 B1 = [] from if_neg h6, show ntB W hs ts X F1 ps T1 B1 = [] from if_neg h6, show ntP W hs ts X F1 ps T1 B1 = [] from if_neg h6] at A2
      have h7 : ntE W hs ts X (opnF F1) ps T1 B1 ≠ 0 := by rw [on.1]; exact h6
      rw [show ntT W hs ts X F1 ps T1 B1 = 0 from if_neg h6, show ntF W hs ts X (opnF F1) ps T1 B1 = [] from if_neg h7, show ntB W hs ts X F1 ps T1 B1 = [] from if_neg h6, show ntP W hs ts X F1 ps T1 B1 = [] from if_neg h6] at A4
      exact con_no2 W X T ah at' a ab hs.length ch ts.length ct fs.length c b.length cb pv w T1 0 F1 (opnF F1) (donF F1) [] [] B1 [] P1 [] _ (bne_iff_ne.2 h6) FB GB hB A1 A2 A3 A4
  · have e1 : ntT W hs ts X fs ps T b = 0 := if_neg h
    have e2 : ntF W hs ts X fs ps T b = [] := if_neg h
    have e3 : ntB W hs ts X fs ps T b = [] := if_neg h
    have e4 : ntP W hs ts X fs ps T b = [] := if_neg h
    rw [e1, e2, e3, e4] at A1
    exact con_no W X T ah at' a ab hs.length ch ts.length ct fs.length c b.length cb pv w _ (bne_iff_ne.2 h) A1

end Go.Proofs.YthaahebggboliaaGreat
