/-
  What Turn of package book does.
-/
import Derived.Test.YtcpfldlcocencaaBookK
namespace Go.Proofs.Ytcpfldlcocencaa
open Go.RowKit Go.Sort Go.Lib
set_option linter.unusedVariables false

/-- the opposite posting -/
def negP (p : Int × Int × Int) : Int × Int × Int := (p.1, p.2.1, -p.2.2)
def turnP (l : List (Int × Int × Int)) : List (Int × Int × Int) := l.reverse.map negP

theorem flatP_set (ps : List (Int × Int × Int)) (k : Nat) (hk : k < ps.length) (x : Int) : (flatP ps).set (k * 3 + 2) (.int .i64 x) = flatP (ps.set k ((ps.getD k default).1, (ps.getD k default).2.1, x)) := by
  induction ps generalizing k with
  | nil => simp at hk
  | cons p l ih =>
    have e : ∀ q m, flatP (q :: m) = .int .i64 q.1 :: .int .i64 q.2.1 :: .int .i64 q.2.2 :: flatP m := fun _ _ => rfl
    cases k with
    | zero => rw [e]; rfl
    | succ k =>
      have := ih k (by simpa using hk)
      rw [e, show (k + 1) * 3 + 2 = (k * 3 + 2) + 1 + 1 + 1 by omega]
      simp only [List.set_cons_succ, this, List.getD_cons_succ]
      rw [e]
theorem OwnsP.put {w : World} {base blk n cap : Nat} {ps : List (Int × Int × Int)} (h : OwnsP w base (.slice (some ⟨blk, 0, none⟩) n cap) ps) (k : Nat) (hk : k < ps.length) (x : Int) :
    OwnsP (w.setCell ⟨blk, k * 3 + 2, none⟩ (.int .i64 x)) base (.slice (some ⟨blk, 0, none⟩) n cap) (ps.set k ((ps.getD k default).1, (ps.getD k default).2.1, x)) := by
  rcases h.2 with ⟨e, _⟩ | ⟨g, cap', cur, e, hg, hh, hc, hm, hs, ht⟩
  · cases e
  · injection e with e1 e2 e3
    injection e1 with e1
    injection e1 with e1 _ _
    subst e1; subst e3; subst e2
    refine ⟨by rw [flatP_len], .inr ⟨blk, cap, cur.setIfInBounds (k * 3 + 2) (.int .i64 x), by rw [List.length_set], hg, ?_, by rw [List.length_set]; exact hc, hm, by simpa using hs, ?_⟩⟩
    · simp [World.setCell, Array.getElem?_modify, hh]
    · rw [List.length_set, Array.toList_setIfInBounds, List.take_set, ht, flatP_set ps k hk]
theorem OwnsP.at_ {w : World} {base blk n cap : Nat} {ps : List (Int × Int × Int)} (h : OwnsP w base (.slice (some ⟨blk, 0, none⟩) n cap) ps) (k : Nat) (hk : k < ps.length) :
    PtAt w blk (k * 3) (ps.getD k default) ∧ w.frozen? ⟨blk, k * 3 + 2, none⟩ = false := by
  rcases h.2 with ⟨e, _⟩ | ⟨g, cap', cur, e, hg, hh, hc, hm, hs, ht⟩
  · cases e
  · injection e with e1 e2 e3
    injection e1 with e1
    injection e1 with e1 _ _
    subst e1; subst e3; subst e2
    have hcc : ∀ i, w.cell? ⟨blk, i, none⟩ = cur[i]? := fun i => cell_of_row w blk i cur _ (0, 0) hh
    have hi : ∀ i, i < ps.length * 3 → cur[i]? = (flatP ps)[i]? := fun i hi => by
      rw [← ht, List.getElem?_take_of_lt (by omega), ← Array.getElem?_toList]
    obtain ⟨e0, e1, e2⟩ := flatP_at ps k hk
    exact ⟨⟨by rw [hcc, hi _ (by omega), e0], by rw [hcc, hi _ (by omega), e1], by rw [hcc, hi _ (by omega), e2]⟩, by simp [World.frozen?, hh]⟩

/-- turned so far -/
def halfT (l : List (Int × Int × Int)) (k : Nat) : List (Int × Int × Int) := (l.reverse.take k).map negP ++ l.reverse.drop k
theorem halfT_len (l : List (Int × Int × Int)) (k : Nat) : (halfT l k).length = l.length := by
  unfold halfT; simp; omega
theorem halfT_at (l : List (Int × Int × Int)) (k : Nat) (hk : k < l.length) : (halfT l k).getD k default = l.reverse.getD k default := by
  unfold halfT
  rw [List.getD_eq_getElem?_getD, List.getD_eq_getElem?_getD, List.getElem?_append_right (by simp; omega)]
  simp [show min k l.length = k by omega]
theorem halfT_set (l : List (Int × Int × Int)) (k : Nat) (hk : k < l.length) : (halfT l k).set k (negP (l.reverse.getD k default)) = halfT l (k + 1) := by
  unfold halfT
  have hr : k < l.reverse.length := by simpa using hk
  rw [List.take_succ_eq_append_getElem hr, List.map_append, List.drop_eq_getElem_cons hr, List.set_append, if_neg (by simp; omega)]
  have : k - ((l.reverse.take k).map negP).length = 0 := by simp; omega
  rw [this, List.set_cons_zero, List.getD_eq_getElem?_getD, List.getElem?_eq_getElem hr]
  simp

theorem kpt_grown' {w w1 w2 w3 : World} {blk n cap : Nat} {ps : List (Int × Int × Int)} (h : Kpt w w2) (hg : w2.grownBy w3 (some blk)) (ho : OwnsP w2 w1.heap.size (.slice (some ⟨blk, 0, none⟩) n cap) ps) (h1 : w.heap.size ≤ w1.heap.size) : Kpt w w3 :=
  Below.grown h hg h.size fun k hk => by
    injection hk with hk
    subst hk
    have := ho.ge blk rfl
    omega
def TurnEnd (w : World) (l : List (Int × Int × Int)) (e : Ending) (w' : World) : Prop :=
  Kpt w w' ∧ ((chkE l ≠ 0 ∧ e = .returned (.tuple #[.slice none 0 0, .int .i64 (chkE l)])) ∨ (chkE l = 0 ∧ ∃ a cap, OwnsP w' w.heap.size (.slice a l.length cap) (turnP l) ∧ e = .returned (.tuple #[.slice a l.length cap, .int .i64 0])))

theorem turn_bad (v : Value) (l : List (Int × Int × Int)) (w : World) (hl : ReadsP w v l) (h : chkE l ≠ 0) : Calls Try.prog 12 #[v] w (TurnEnd w l) := by
  have CB := Lib.hid (bookCheck_any v l w hl)
  have HH := Lib.hid h
  have q : (chkE l != 0) = true := bne_iff_ne.2 h
  clear h hl
  have HE : Hid (∃ E, chkE l = E) := ⟨_, rfl⟩
  go_enter Try.func12, Try.ntmps12
  go_wp2_with (go_at_call 20; (with_reducible refine CB.out.mono ?_); rintro e w1 ⟨rfl, g1⟩)
  go_ret2
  exact ⟨g1.kpt, .inl ⟨HH.out, rfl⟩⟩

theorem half_step {w : World} {base blk cap : Nat} {l : List (Int × Int × Int)} {k : Nat} (hk : k < l.length) (h : OwnsP w base (.slice (some ⟨blk, 0, none⟩) l.length cap) (halfT l k)) :
    OwnsP (w.setCell ⟨blk, k * 3 + 2, none⟩ (.int .i64 (-((halfT l k).getD k default).2.2))) base (.slice (some ⟨blk, 0, none⟩) l.length cap) (halfT l (k + 1)) := by
  have := h.put k (by rw [halfT_len]; exact hk) (-((halfT l k).getD k default).2.2)
  rw [halfT_at l k hk] at this ⊢
  rw [← halfT_set l k hk]
  exact this

set_option maxRecDepth 100000 in
set_option maxHeartbeats 2000000 in
theorem turn_ok (v : Value) (l : List (Int × Int × Int)) (w : World) (hl : ReadsP w v l) (h : chkE l = 0) : Calls Try.prog 12 #[v] w (TurnEnd w l) := by
  have CB := Lib.hid (h ▸ bookCheck_any v l w hl)
  obtain ⟨l0, l1, lp, -⟩ := chk_0 h
  have RL := Lib.hid hl
  have HH := Lib.hid h
  have LP := Lib.hid lp
  clear h hl lp
  go_enter Try.func12, Try.ntmps12
  go_wp2_with (first
    | (go_at_call 20; (with_reducible refine CB.out.mono ?_); rintro e w1 ⟨rfl, g1⟩)
    | (go_at_call 32; (with_reducible refine (clone_run v l _ (RL.out.grew g1) l0 (by omega)).mono ?_); rintro e w2 ⟨blk, cap, rfl, ho, k2⟩; have HO := Lib.hid ho; have K2 := Lib.hid (ktr g1.kpt k2); have S1 := Lib.hid g1.kpt.size; clear ho k2)
    | (go_at_call 33; (with_reducible refine (reverse_run _ _ blk cap l HO.out (by omega)).mono ?_); rintro e w3 ⟨rfl, ho3, hg3⟩; have HO3 := Lib.hid ho3; have K3 := Lib.hid (kpt_grown' K2.out hg3 HO.out S1.out); clear ho3 hg3))
  have Z1 := Lib.hid (show w.heap.size ≤ blk from Nat.le_trans S1.out (HO.out.ge blk rfl))
  go_loopw [18] (fun i wr => ∃ k : Nat, k ≤ l.length ∧ i = .int .i64 k ∧ Hid (OwnsP wr w.heap.size (.slice (some ⟨blk, 0, none⟩) l.length cap) (halfT l k)) ∧ Hid (Kpt w wr)) (fun i _ => l.length - (intOf i).toNat)
  case atStart => exact ⟨0, Nat.zero_le _, rfl, (by unfold Hid halfT; rw [List.take_zero, List.drop_zero]; exact HO3.out.base S1.out), K3.out⟩
  case round =>
    obtain ⟨k, hk, rfl, HW, HK⟩ := hrel
    by_cases hlt : k < l.length
    · obtain ⟨⟨c0, c1, c2⟩, f2⟩ := HW.out.at_ k (by rw [halfT_len]; exact hlt)
      have hx : ptB ((halfT l k).getD k default) = true := by
        rw [halfT_at l k hlt]
        exact LP.out _ (List.mem_reverse.1 (getP_mem (by simpa using hlt)))
      have hb := pt_t hx
      have HN := Lib.hid (fun (_ : True) => half_step hlt HW.out)
      generalize (halfT l k).getD k default = p at *
      obtain ⟨p0, p1, p2⟩ := p
      obtain ⟨-, -, -, -, -, n0, n1⟩ := hb
      simp only at c0 c1 c2 n0 n1
      clear hx
      go_wp2
      go_roundw
      case rel => exact ⟨k + 1, by omega, by go_num, HN.out trivial, HK.out.setCell Z1.out _⟩
      case measure => simp [intOf]; omega
    · obtain rfl : k = l.length := by omega
      have e : halfT l l.length = turnP l := by
        unfold halfT turnP
        rw [List.take_of_length_le (by simp), List.drop_eq_nil_of_le (by simp), List.append_nil]
      rw [e] at HW
      clear e
      go_wp2
      go_ret2
      exact ⟨HK.out, .inr ⟨HH.out, _, _, HW.out, rfl⟩⟩

theorem turn_any (v : Value) (l : List (Int × Int × Int)) (w : World) (hl : ReadsP w v l) : Calls Try.prog 12 #[v] w (TurnEnd w l) := by
  by_cases h : chkE l = 0
  · exact turn_ok v l w hl h
  · exact turn_bad v l w hl h

end Go.Proofs.Ytcpfldlcocencaa
