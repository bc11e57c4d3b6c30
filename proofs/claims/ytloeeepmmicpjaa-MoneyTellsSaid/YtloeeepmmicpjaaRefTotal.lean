/-
  MoneyTotal of package demurrageref answers as Total does.
-/
import Derived.Test.YtloeeepmmicpjaaRefNear
namespace Go.Proofs.Ytloeeepmmicpjaa
open Go.RowKit
set_option linter.unusedVariables false

def posOf (l : List Int) : List Int := l.filter fun z => decide (0 ≤ z)
def negOf (l : List Int) : List Int := l.filter fun z => decide (z < 0)
theorem posneg_sum (l : List Int) : (posOf l).sum + (negOf l).sum = l.sum := by
  induction l with
  | nil => rfl
  | cons z l ih =>
    unfold posOf negOf at *
    by_cases h : 0 ≤ z
    · rw [List.filter_cons_of_pos (by simpa using h), List.filter_cons_of_neg (by simp; omega), List.sum_cons, List.sum_cons]; omega
    · rw [List.filter_cons_of_neg (by simpa using h), List.filter_cons_of_pos (by simp; omega), List.sum_cons, List.sum_cons]; omega
theorem pos_snoc {zs : List Int} {k : Nat} (hk : k < zs.length) (h : 0 ≤ zs.getD k 0) : posOf (zs.take k) ++ [zs.getD k 0] = posOf (zs.take (k + 1)) ∧ negOf (zs.take k) = negOf (zs.take (k + 1)) := by
  have e : zs.getD k 0 = zs[k] := by rw [List.getD_eq_getElem?_getD, List.getElem?_eq_getElem hk]; rfl
  rw [e] at h ⊢
  unfold posOf negOf
  rw [List.take_succ_eq_append_getElem hk, List.filter_append, List.filter_append]
  refine ⟨by simp [h], by simp; omega⟩
theorem neg_snoc {zs : List Int} {k : Nat} (hk : k < zs.length) (h : zs.getD k 0 < 0) : negOf (zs.take k) ++ [zs.getD k 0] = negOf (zs.take (k + 1)) ∧ posOf (zs.take k) = posOf (zs.take (k + 1)) := by
  have e : zs.getD k 0 = zs[k] := by rw [List.getD_eq_getElem?_getD, List.getElem?_eq_getElem hk]; rfl
  rw [e] at h ⊢
  unfold posOf negOf
  rw [List.take_succ_eq_append_getElem hk, List.filter_append, List.filter_append]
  refine ⟨by simp [h], by simp; omega⟩
theorem filter_len (p : Int → Bool) {zs : List Int} {k n : Nat} (h : zs.length ≤ n) : ((zs.take k).filter p).length ≤ n :=
  Nat.le_trans (List.length_filter_le _ _) (Nat.le_trans (List.length_take_le' _ _) h)

theorem sum_nonneg {l : List Int} (h : ∀ z ∈ l, 0 ≤ z) : 0 ≤ l.sum := by
  induction l with
  | nil => exact Int.le_refl _
  | cons a l ih => rw [List.sum_cons]; have := h a (by simp); have := ih fun z hz => h z (by simp [hz]); omega
theorem sum_nonpos {l : List Int} (h : ∀ z ∈ l, z < 0) : l.sum ≤ 0 := by
  induction l with
  | nil => exact Int.le_refl _
  | cons a l ih => rw [List.sum_cons]; have := h a (by simp); have := ih fun z hz => h z (by simp [hz]); omega

/-- what Total, and the document, answer -/
def TotIs (zs : List Int) (t E : Int) : Prop := (allE zs = 3 ∧ t = 0 ∧ E = 3) ∨ (allE zs = 0 ∧ amtB zs.sum = true ∧ t = zs.sum ∧ E = 0) ∨ (allE zs = 0 ∧ amtB zs.sum = false ∧ t = 0 ∧ E = 8)
def SomeTot (zs : List Int) (w : World) (e : Ending) (w' : World) : Prop := (∃ t E : Int, e = .returned (.tuple #[.int .i64 t, .int .i64 E]) ∧ TotIs zs t E) ∧ Below w.heap.size w w'

/-- what is above 0, what is below, and what is added up so far -/
structure Rest (ms ls : List Int) (s S : Int) : Prop where
  sum : s + ms.sum + ls.sum = S
  ms_ok : ∀ z ∈ ms, 0 ≤ z ∧ z ≤ 1152921504606846976
  ls_ok : ∀ z ∈ ls, z < 0 ∧ -1152921504606846976 ≤ z
theorem Rest.pos {m : Int} {ms ls : List Int} {s S : Int} (h : Rest (m :: ms) ls s S) : Rest ms ls (s + m) S ∧ 0 ≤ m ∧ m ≤ 1152921504606846976 :=
  ⟨⟨by have := h.sum; rw [List.sum_cons] at this; omega, fun z hz => h.ms_ok z (by simp [hz]), h.ls_ok⟩, h.ms_ok m (by simp)⟩
theorem Rest.neg {m : Int} {ms ls : List Int} {s S : Int} (h : Rest ms (m :: ls) s S) : Rest ms ls (s + m) S ∧ m < 0 ∧ -1152921504606846976 ≤ m :=
  ⟨⟨by have := h.sum; rw [List.sum_cons] at this; omega, h.ms_ok, fun z hz => h.ls_ok z (by simp [hz])⟩, h.ls_ok m (by simp)⟩
theorem Rest.high {ms : List Int} {s S : Int} (h : Rest ms [] s S) : s ≤ S := by
  have := h.sum; have := sum_nonneg fun z hz => (h.ms_ok z hz).1; simp at *; omega
theorem Rest.low {ls : List Int} {s S : Int} (h : Rest [] ls s S) : S ≤ s := by
  have := h.sum; have := sum_nonpos fun z hz => (h.ls_ok z hz).1; simp at *; omega
theorem Rest.done {s S : Int} (h : Rest [] [] s S) : s = S := by have := h.sum; simp at this; omega

theorem Reads.head {w : World} {A : Option Addr} {n cap : Nat} {m : Int} {ms : List Int} (h : Reads w (.slice A n cap) (m :: ms)) : n = ms.length + 1 ∧ ∃ b off, A = some ⟨b, off, none⟩ ∧ w.cell? ⟨b, off, none⟩ = some (.int .i64 m) ∧ Reads w (.slice (some ⟨b, off + 1, none⟩) ms.length (cap - 1)) ms := by
  have hn := h.slice
  have hl := h.len
  rcases h.cell with ⟨e, _⟩ | ⟨_, b, off, cap', e, hc⟩
  · cases e
  · injection e with e1 e2 e3
    subst e1
    refine ⟨by rw [← hn]; rfl, b, off, rfl, ?_, reads_mk rfl (by simp at hl; omega) fun j hj => ?_⟩
    · have := hc 0 (by simp)
      simpa using this
    · have := hc (j + 1) (by simp; omega)
      rw [show off + (j + 1) = off + 1 + j by omega] at this
      simpa using this

/-- a slice's length: for a measure -/
def lenOf : Value → Nat | .slice _ n _ => n | _ => 0

set_option maxRecDepth 100000 in
set_option maxHeartbeats 4000000 in
theorem rtotal_some (b off cap : Nat) (zs : List Int) (hn : zs.length ≤ 40) (w : World) (hc : ∀ j, j < zs.length → w.cell? ⟨b, off + j, none⟩ = some (.int .i64 (zs.getD j 0))) :
    Calls Try.prog 20 #[.slice (some ⟨b, off, none⟩) zs.length cap] w (SomeTot zs w) := by
  have HC := Lib.hid hc
  clear hc
  go_enter Try.func20, Try.ntmps20
  go_wp2
  go_loopw [4, 5, 6] (fun x y i wr => ∃ k : Nat, k ≤ zs.length ∧ i = .int .i64 k ∧ Hid (Owns wr w.heap.size x (posOf (zs.take k))) ∧ Hid (Owns wr w.heap.size y (negOf (zs.take k))) ∧ Hid (Apart x y ∧ Apart y x) ∧ Hid (Below w.heap.size w wr) ∧ Hid (∀ z ∈ zs.take k, amtB z = true)) (fun _ _ i _ => zs.length - (intOf i).toNat)
  case atStart => exact ⟨0, Nat.zero_le _, rfl, Owns.nil _ _, Owns.nil _ _, ⟨.inl rfl, .inl rfl⟩, Below.refl _ _, by simp [Hid]⟩
  case round =>
    obtain ⟨k, hk, rfl, HP, HN, HA, HB, HZ⟩ := hrel
    by_cases hlt : k < zs.length
    · have hcell := (HB.out.cell (p := ⟨b, off + k, none⟩) (cell_in (HC.out k hlt))).trans (HC.out k hlt)
      have hps := pos_snoc (zs := zs) (k := k) hlt
      have hns := neg_snoc (zs := zs) (k := k) hlt
      have hbad := allE_take (zs := zs) (k := k) hlt
      have hmem : ∀ z ∈ zs.take (k + 1), amtB z = true ∨ z = zs.getD k 0 := by
        intro z hz
        rw [List.take_succ_eq_append_getElem hlt] at hz
        rcases List.mem_append.1 hz with q | q
        · exact .inl (HZ.out z q)
        · refine .inr ?_
          rw [List.mem_singleton.1 q, List.getD_eq_getElem?_getD, List.getElem?_eq_getElem hlt]; rfl
      generalize zs.getD k 0 = z at hcell hps hns hbad hmem
      have HPS := Lib.hid hps
      have HNS := Lib.hid hns
      have HBAD := Lib.hid hbad
      have HMEM := Lib.hid hmem
      clear hps hns hbad hmem
      cases hz : amtB z with
      | false =>
        go_wp2_with (go_at_call 22; (with_reducible refine (rchk_no _ _ hz).mono ?_); rintro e w' ⟨rfl, rfl⟩)
        go_ret2
        exact ⟨⟨0, 3, rfl, .inl ⟨HBAD.out hz, rfl, rfl⟩⟩, HB.out⟩
      | true =>
        have hz' := amt_t hz
        have HL : Hid ((posOf (zs.take k)).length + 1 ≤ 1000000) := (by have := filter_len (fun z => decide (0 ≤ z)) (k := k) hn; unfold posOf; omega : (posOf (zs.take k)).length + 1 ≤ 1000000)
        have HL2 : Hid ((negOf (zs.take k)).length + 1 ≤ 1000000) := (by have := filter_len (fun z => decide (z < 0)) (k := k) hn; unfold negOf; omega : (negOf (zs.take k)).length + 1 ≤ 1000000)
        by_cases h0 : 0 ≤ z
        · go_wp2_with (first
            | (go_at_call 22; (with_reducible refine (rchk_ok _ _ hz).mono ?_); rintro e w' ⟨rfl, rfl⟩)
            | (at_builtin; refine wp_append2 rfl (.tmp 28) (.tmp 33) rfl w.heap.size _ _ z wr rfl HP.out rfl HL.out HB.out.size _ _ HN.out HA.out.2 ?_; intro v' w' o1 o2 o3 o4 o5; have O1 := Lib.hid o1; have O2 := Lib.hid o2; have O3 := Lib.hid o3; have O4 := Lib.hid (And.intro o5 o4); clear o1 o2 o3 o4 o5))
          go_roundw
          case rel => exact ⟨k + 1, by omega, by go_num, by unfold Hid; rw [← (HPS.out h0).1]; exact O1.out, by unfold Hid; rw [← (HPS.out h0).2]; exact O3.out, O4.out, HB.out.trans O2.out, fun z' hz' => (HMEM.out z' hz').elim id (fun e => by rw [e]; exact hz)⟩
          case measure => simp [intOf]; omega
        · have h0' : z < 0 := by omega
          go_wp2_with (first
            | (go_at_call 22; (with_reducible refine (rchk_ok _ _ hz).mono ?_); rintro e w' ⟨rfl, rfl⟩)
            | (at_builtin; refine wp_append2 rfl (.tmp 35) (.tmp 40) rfl w.heap.size _ _ z wr rfl HN.out rfl HL2.out HB.out.size _ _ HP.out HA.out.1 ?_; intro v' w' o1 o2 o3 o4 o5; have O1 := Lib.hid o1; have O2 := Lib.hid o2; have O3 := Lib.hid o3; have O4 := Lib.hid (And.intro o4 o5); clear o1 o2 o3 o4 o5))
          go_roundw
          case rel => exact ⟨k + 1, by omega, by go_num, by unfold Hid; rw [← (HNS.out h0').2]; exact O3.out, by unfold Hid; rw [← (HNS.out h0').1]; exact O1.out, O4.out, HB.out.trans O2.out, fun z' hz' => (HMEM.out z' hz').elim id (fun e => by rw [e]; exact hz)⟩
          case measure => simp [intOf]; omega
    · have ek : zs.take k = zs := List.take_of_length_le (by omega)
      rw [ek] at HP HN HZ
      have hE : allE zs = 0 := allE_ok HZ.out
      have hrest : Rest (posOf zs) (negOf zs) 0 zs.sum := by
        refine ⟨by have := posneg_sum zs; omega, fun z hz => ?_, fun z hz => ?_⟩
        · have h1 := List.mem_filter.1 hz
          have := amt_t (HZ.out z h1.1)
          have h2 : 0 ≤ z := by simpa using h1.2
          omega
        · have h1 := List.mem_filter.1 hz
          have := amt_t (HZ.out z h1.1)
          have h2 : z < 0 := by simpa using h1.2
          omega
      obtain ⟨A1, c1, hv1, hc1, hr1⟩ := HP.out.readsCap
      obtain ⟨A2, c2, hv2, hc2, hr2⟩ := HN.out.readsCap
      have hl1 := filter_len (fun z => decide (0 ≤ z)) (k := zs.length) hn
      have hl2 := filter_len (fun z => decide (z < 0)) (k := zs.length) hn
      rw [List.take_length] at hl1 hl2
      change (posOf zs).length ≤ 40 at hl1
      change (negOf zs).length ≤ 40 at hl2
      subst hv1 hv2
      have H1 := Lib.hid hr1
      have H2 := Lib.hid hr2
      have H3 := Lib.hid hrest
      have HE := Lib.hid hE
      clear hr1 hr2 hrest hE HP HN HA HZ ek
      obtain ⟨S, hS⟩ : ∃ S, S = zs.sum := ⟨_, rfl⟩
      rw [← hS] at H3
      have ES := Lib.hid hS
      clear hS
      generalize posOf zs = ms0 at *
      generalize negOf zs = ls0 at *
      obtain ⟨wo, rfl⟩ : ∃ wo : World, wo = wr := ⟨_, rfl⟩
      go_wp2_with fail
      go_loop [4, 5, 7] (fun x y s => ∃ (A1 : Option Addr) (c1 : Nat) (A2 : Option Addr) (c2 : Nat) (ms ls : List Int) (t : Int), x = .slice A1 ms.length c1 ∧ y = .slice A2 ls.length c2 ∧ s = .int .i64 t ∧ -2305843009213693952 ≤ t ∧ t ≤ 2305843009213693952 ∧ ms.length ≤ 40 ∧ ls.length ≤ 40 ∧ ms.length ≤ c1 ∧ ls.length ≤ c2 ∧ Hid (Reads wo (.slice A1 ms.length c1) ms) ∧ Hid (Reads wo (.slice A2 ls.length c2) ls) ∧ Hid (Rest ms ls t S)) (fun x y _ => lenOf x + lenOf y)
      case atStart => exact ⟨A1, c1, A2, c2, ms0, ls0, 0, rfl, rfl, rfl, by omega, by omega, hl1, hl2, hc1, hc2, H1, H2, H3⟩
      case round =>
        clear H1 H2 H3 hl1 hl2 hc1 hc2
        obtain ⟨A1, c1, A2, c2, ms, ls, t, rfl, rfl, rfl, ht0, ht1, hl1, hl2, hc1, hc2, H1, H2, H3⟩ := hrel
        cases ls with
        | nil =>
          cases ms with
          | nil =>
            have H4 := Lib.hid H3.out.done
            cases ha : amtB t with
            | true =>
              go_wp2_with (go_at_call 22; (with_reducible refine (rchk_ok _ _ ha).mono ?_); rintro e w' ⟨rfl, rfl⟩)
              go_ret2
              exact ⟨⟨t, 0, rfl, .inr (.inl ⟨HE.out, by rw [← ES.out, ← H4.out]; exact ha, by rw [← ES.out, ← H4.out], rfl⟩)⟩, HB.out⟩
            | false =>
              go_wp2_with (go_at_call 22; (with_reducible refine (rchk_no _ _ ha).mono ?_); rintro e w' ⟨rfl, rfl⟩)
              go_ret2
              exact ⟨⟨0, 8, rfl, .inr (.inr ⟨HE.out, by rw [← ES.out, ← H4.out]; exact ha, rfl, rfl⟩)⟩, HB.out⟩
          | cons m ms =>
            obtain ⟨-, b1, off1, rfl, hcell, hrd⟩ := H1.out.head
            obtain ⟨h4, hm0, hm1⟩ := H3.out.pos
            have HR := Lib.hid hrd
            have H4 := Lib.hid h4
            clear hrd h4 H1 H3
            have hl1' : ms.length + 1 ≤ 40 := hl1
            have hc1' : ms.length + 1 ≤ c1 := hc1
            clear hl1 hc1
            by_cases hb : t + m ≤ 2305843009213693952
            · skip
              by_cases hc : c1 = 1
              · subst hc
                obtain rfl : ms = [] := List.eq_nil_of_length_eq_zero (by omega)
                go_wp2_with (go_at_call 44; (with_reducible refine (between_t _ _ _ _ (by omega) (by omega)).mono ?_); rintro e w' ⟨rfl, rfl⟩)
                go_round
                case rel => exact ⟨_, _, A2, c2, [], [], t + m, rfl, rfl, rfl, by omega, by omega, by simp, hl2, by simp, hc2, reads_nil _ _ _, H2, H4⟩
                case measure => simp [lenOf]
              · go_wp2_with (go_at_call 44; (with_reducible refine (between_t _ _ _ _ (by omega) (by omega)).mono ?_); rintro e w' ⟨rfl, rfl⟩)
                go_round
                case rel => exact ⟨_, _, A2, c2, ms, [], t + m, rfl, rfl, rfl, by omega, by omega, by omega, hl2, by omega, hc2, HR, H2, H4⟩
                case measure => simp [lenOf]
            · have HW : Hid (amtB S = false) := amt_no (.inr (by have := H4.out.high; omega))
              go_wp2_with (go_at_call 44; (with_reducible refine (between_f _ _ _ _ (by omega)).mono ?_); rintro e w' ⟨rfl, rfl⟩)
              all_goals
                go_ret2
                exact ⟨⟨0, 8, rfl, .inr (.inr ⟨HE.out, by rw [← ES.out]; exact HW.out, rfl, rfl⟩)⟩, HB.out⟩
        | cons l ls =>
          cases ms with
          | nil =>
            obtain ⟨-, b1, off1, rfl, hcell, hrd⟩ := H2.out.head
            obtain ⟨h4, hm0, hm1⟩ := H3.out.neg
            have HR := Lib.hid hrd
            have H4 := Lib.hid h4
            clear hrd h4 H2 H3
            have hl2' : ls.length + 1 ≤ 40 := hl2
            have hc2' : ls.length + 1 ≤ c2 := hc2
            clear hl2 hc2
            by_cases hb : -2305843009213693952 ≤ t + l
            · skip
              by_cases hc : c2 = 1
              · subst hc
                obtain rfl : ls = [] := List.eq_nil_of_length_eq_zero (by omega)
                go_wp2_with (go_at_call 44; (with_reducible refine (between_t _ _ _ _ (by omega) (by omega)).mono ?_); rintro e w' ⟨rfl, rfl⟩)
                go_round
                case rel => exact ⟨A1, c1, _, _, [], [], t + l, rfl, rfl, rfl, by omega, by omega, hl1, by simp, hc1, by simp, H1, reads_nil _ _ _, H4⟩
                case measure => simp [lenOf]
              · go_wp2_with (go_at_call 44; (with_reducible refine (between_t _ _ _ _ (by omega) (by omega)).mono ?_); rintro e w' ⟨rfl, rfl⟩)
                go_round
                case rel => exact ⟨A1, c1, _, _, [], ls, t + l, rfl, rfl, rfl, by omega, by omega, hl1, by omega, hc1, by omega, H1, HR, H4⟩
                case measure => simp [lenOf]
            · have HW : Hid (amtB S = false) := amt_no (.inl (by have := H4.out.low; omega))
              go_wp2_with (go_at_call 44; (with_reducible refine (between_f _ _ _ _ (by omega)).mono ?_); rintro e w' ⟨rfl, rfl⟩)
              all_goals
                go_ret2
                exact ⟨⟨0, 8, rfl, .inr (.inr ⟨HE.out, by rw [← ES.out]; exact HW.out, rfl, rfl⟩)⟩, HB.out⟩
          | cons m ms =>
            have hl2' : ls.length + 1 ≤ 40 := hl2
            have hl1' : ms.length + 1 ≤ 40 := hl1
            by_cases htp : t ≤ 0
            · skip
              obtain ⟨-, b1, off1, rfl, hcell, hrd⟩ := H1.out.head
              obtain ⟨h4, hm0, hm1⟩ := H3.out.pos
              have HR := Lib.hid hrd
              have H4 := Lib.hid h4
              clear hrd h4 H1 H3
              have hl1' : ms.length + 1 ≤ 40 := hl1
              have hc1' : ms.length + 1 ≤ c1 := hc1
              clear hl1 hc1
              by_cases hc : c1 = 1
              · subst hc
                obtain rfl : ms = [] := List.eq_nil_of_length_eq_zero (by omega)
                go_wp2_with (go_at_call 44; (with_reducible refine (between_t _ _ _ _ (by omega) (by omega)).mono ?_); rintro e w' ⟨rfl, rfl⟩)
                go_round
                case rel => exact ⟨_, _, A2, c2, [], l :: ls, t + m, rfl, rfl, rfl, by omega, by omega, by simp, hl2, by simp, hc2, reads_nil _ _ _, H2, H4⟩
                case measure => simp [lenOf]
              · go_wp2_with (go_at_call 44; (with_reducible refine (between_t _ _ _ _ (by omega) (by omega)).mono ?_); rintro e w' ⟨rfl, rfl⟩)
                go_round
                case rel => exact ⟨_, _, A2, c2, ms, l :: ls, t + m, rfl, rfl, rfl, by omega, by omega, by omega, hl2, by omega, hc2, HR, H2, H4⟩
                case measure => simp [lenOf]
            · skip
              obtain ⟨-, b1, off1, rfl, hcell, hrd⟩ := H2.out.head
              obtain ⟨h4, hm0, hm1⟩ := H3.out.neg
              have HR := Lib.hid hrd
              have H4 := Lib.hid h4
              clear hrd h4 H2 H3
              have hl2' : ls.length + 1 ≤ 40 := hl2
              have hc2' : ls.length + 1 ≤ c2 := hc2
              clear hl2 hc2
              by_cases hc : c2 = 1
              · subst hc
                obtain rfl : ls = [] := List.eq_nil_of_length_eq_zero (by omega)
                go_wp2_with (go_at_call 44; (with_reducible refine (between_t _ _ _ _ (by omega) (by omega)).mono ?_); rintro e w' ⟨rfl, rfl⟩)
                go_round
                case rel => exact ⟨A1, c1, _, _, m :: ms, [], t + l, rfl, rfl, rfl, by omega, by omega, hl1, by simp, hc1, by simp, H1, reads_nil _ _ _, H4⟩
                case measure => simp [lenOf]
              · go_wp2_with (go_at_call 44; (with_reducible refine (between_t _ _ _ _ (by omega) (by omega)).mono ?_); rintro e w' ⟨rfl, rfl⟩)
                go_round
                case rel => exact ⟨A1, c1, _, _, m :: ms, ls, t + l, rfl, rfl, rfl, by omega, by omega, hl1, by omega, hc1, by omega, H1, HR, H4⟩
                case measure => simp [lenOf]

set_option maxRecDepth 100000 in
theorem rtotal_none (a : Option Addr) (cap : Nat) (w : World) : Calls Try.prog 20 #[.slice a 0 cap] w fun e w' => e = .returned (.tuple #[.int .i64 0, .int .i64 0]) ∧ w = w' := by
  go_enter Try.func20, Try.ntmps20
  go_wp2
  go_loop [4, 5, 6] (fun x y i => x = .slice none 0 0 ∧ y = .slice none 0 0 ∧ i = .int .i64 0) (fun _ _ _ => 0)
  case atStart => exact ⟨rfl, rfl, rfl⟩
  case round =>
    obtain ⟨rfl, rfl, rfl⟩ := hrel
    go_wp2_with fail
    go_loop [4, 5, 7] (fun x y i => x = .slice none 0 0 ∧ y = .slice none 0 0 ∧ i = .int .i64 0) (fun _ _ _ => 0)
    case atStart => exact ⟨rfl, rfl, rfl⟩
    case round =>
      obtain ⟨rfl, rfl, rfl⟩ := hrel
      go_wp2_with (go_at_call 22; (with_reducible refine (rchk_ok 0 _ (by decide)).mono ?_); rintro e w' ⟨rfl, rfl⟩)
      go_ret2
      exact ⟨rfl, rfl⟩

theorem rtotal_many (a : Option Addr) (n cap : Nat) (hn : 40 < n) (hb : n ≤ maxLen) (w : World) :
    Calls Try.prog 20 #[.slice a n cap] w fun e w' => e = .returned (.tuple #[.int .i64 0, .int .i64 2]) ∧ w = w' := by
  unfold maxLen at hb
  go_enter Try.func20, Try.ntmps20
  go_wp2
  go_ret2
  exact ⟨rfl, rfl⟩

/-- both ways of adding up a list answer the same -/
theorem total_both (a : Option Addr) (n cap : Nat) (zs : List Int) (w : World) (hr : Reads w (.slice a n cap) zs) :
    ∃ t E, (∀ w1, Grew w w1 → Calls Try.prog 12 #[.slice a n cap] w1 fun e w' => e = .returned (.tuple #[.int .i64 t, .int .i64 E]) ∧ Grew w1 w') ∧
      (∀ w1, Grew w w1 → Calls Try.prog 20 #[.slice a n cap] w1 fun e w' => e = .returned (.tuple #[.int .i64 t, .int .i64 E]) ∧ Below w1.heap.size w1 w') := by
  have hl := hr.slice
  have hm := hr.len
  subst hl
  by_cases h40 : 40 < zs.length
  · refine ⟨0, 2, fun w1 _ => (total_many a zs.length cap h40 hm w1).mono ?_, fun w1 _ => (rtotal_many a zs.length cap h40 hm w1).mono ?_⟩
    · rintro e w' ⟨rfl, rfl⟩
      exact ⟨rfl, Grew.refl _⟩
    · rintro e w' ⟨rfl, rfl⟩
      exact ⟨rfl, Below.refl _ _⟩
  · have ref : ∀ t E, (∀ t' E', TotIs zs t' E' → t' = t ∧ E' = E) → (∀ w1, Grew w w1 → Calls Try.prog 20 #[.slice a zs.length cap] w1 fun e w' => e = .returned (.tuple #[.int .i64 t, .int .i64 E]) ∧ Below w1.heap.size w1 w') := by
      intro t E hT w1 g
      rcases (hr.grew g).cell with ⟨rfl, a', cap', e⟩ | ⟨_, b, off, cap', e, hc⟩
      · obtain ⟨rfl, rfl⟩ := hT 0 0 (.inr (.inl ⟨rfl, by decide, rfl, rfl⟩))
        refine (rtotal_none a cap w1).mono ?_
        rintro e w' ⟨rfl, rfl⟩
        exact ⟨rfl, Below.refl _ _⟩
      · injection e with e1 e2 e3
        subst e1
        refine (rtotal_some b off cap zs (by omega) w1 hc).mono ?_
        rintro e w' ⟨⟨t', E', rfl, h'⟩, hb⟩
        obtain ⟨rfl, rfl⟩ := hT t' E' h'
        exact ⟨rfl, hb⟩
    rcases allE_cases zs with ⟨hE, _⟩ | ⟨hE, _⟩
    · cases hS : amtB zs.sum with
      | true =>
        refine ⟨zs.sum, 0, fun w1 g => total_ok a _ cap zs (by omega) w1 (hr.grew g) hE hS, ref _ _ ?_⟩
        rintro t' E' (⟨h, _⟩ | ⟨_, _, h1, h2⟩ | ⟨_, h, _⟩)
        · omega
        · exact ⟨h1, h2⟩
        · rw [hS] at h; cases h
      | false =>
        refine ⟨0, 8, fun w1 g => total_wide a _ cap zs (by omega) w1 (hr.grew g) hE hS, ref _ _ ?_⟩
        rintro t' E' (⟨h, _⟩ | ⟨_, h, _⟩ | ⟨_, _, h1, h2⟩)
        · omega
        · rw [hS] at h; cases h
        · exact ⟨h1, h2⟩
    · refine ⟨0, 3, fun w1 g => (total_no a _ cap zs (by omega) w1 (hr.grew g) hE).mono ?_, ref _ _ ?_⟩
      · rintro e w' ⟨rfl, rfl⟩
        exact ⟨rfl, Grew.refl _⟩
      · rintro t' E' (⟨_, h1, h2⟩ | ⟨h, _⟩ | ⟨h, _⟩)
        · exact ⟨h1, h2⟩
        · omega
        · omega

end Go.Proofs.Ytloeeepmmicpjaa
