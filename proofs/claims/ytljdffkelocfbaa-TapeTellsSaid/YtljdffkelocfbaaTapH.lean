/-
  The records of a tape, one behind the other: what the iterator of records does.
-/
import Derived.RangeFuncNested
import Derived.RangeFuncBound
import Derived.RangeFuncCalls
import Derived.RangeFuncLeaves
import Derived.RangeFuncFrom
import Derived.Shelf.Abstract
import Derived.Shelf.RegionOpen
import Derived.OwnWalkIn
import Derived.TacticsInMore
import Derived.LoopNIn
import Derived.LoopIn
import Derived.Test.YtljdffkelocfbaaTapG
namespace Go.Proofs.Ytljdffkelocfbaa
open Go.RowKit Go.Shelf
set_option linter.unusedVariables false
attribute [local go_sem] Oper.semAt_some

theorem take_ends {L : List (List Nat)} {k : Nat} (h : k < L.length) : ends (L.take (k + 1)) = ends (L.take k) + (L.getD k []).length + 6 := by
  rw [List.take_succ_eq_append_getElem h, ends_app, List.getD_eq_getElem?_getD, List.getElem?_eq_getElem h]
  simp [ends]; omega
theorem drop_cons {L : List (List Nat)} {k : Nat} (h : k < L.length) : L.drop k = L.getD k [] :: L.drop (k + 1) := by
  rw [List.drop_eq_getElem_cons h, List.getD_eq_getElem?_getD, List.getElem?_eq_getElem h]; rfl
/-- where the k-th record begins -/
def pos (t : List Nat) (k : Nat) : Nat := ends ((recs t).take k)
theorem recs_at (t : List Nat) : ∀ k, k ≤ (recs t).length → recs (t.drop (pos t k)) = (recs t).drop k ∧ pos t k ≤ t.length := by
  intro k
  induction k with
  | zero => intro _; simp [pos, ends]
  | succ k ih =>
    intro hk
    obtain ⟨h1, h2⟩ := ih (by omega)
    have hf : fst? (t.drop (pos t k)) = true := by
      cases hf : fst? (t.drop (pos t k)) with
      | true => rfl
      | false =>
        rw [recs_f hf] at h1
        have := congrArg List.length h1
        rw [List.length_drop, List.length_nil] at this
        omega
    have h3 := recs_t hf
    rw [h1, drop_cons (by omega)] at h3
    have e1 := (List.cons.inj h3).1
    have e2 := (List.cons.inj h3).2
    have h4 := bdy_len hf
    have h5 := fst_t hf
    rw [List.length_drop] at h5
    have e3 : pos t (k + 1) = pos t k + (fsz (t.drop (pos t k)) + 6) := by
      have e4 : pos t (k + 1) = pos t k + ((recs t).getD k []).length + 6 := take_ends (by omega)
      rw [e4, e1, h4]; omega
    rw [e3, ← List.drop_drop]
    exact ⟨e2.symm, by omega⟩
theorem rec_is {t : List Nat} {k : Nat} (hk : k < (recs t).length) : fst? (t.drop (pos t k)) = true ∧ bdy (t.drop (pos t k)) = (recs t).getD k [] ∧ fsz (t.drop (pos t k)) = ((recs t).getD k []).length ∧ pos t (k + 1) = pos t k + ((recs t).getD k []).length + 6 ∧ pos t k + ((recs t).getD k []).length + 6 ≤ t.length := by
  obtain ⟨h1, h2⟩ := recs_at t k (by omega)
  have hf : fst? (t.drop (pos t k)) = true := by
    cases hf : fst? (t.drop (pos t k)) with
    | true => rfl
    | false =>
      rw [recs_f hf] at h1
      have := congrArg List.length h1
      rw [List.length_drop, List.length_nil] at this
      omega
  have h3 := recs_t hf
  rw [h1, drop_cons hk] at h3
  have e1 := (List.cons.inj h3).1
  have h4 := bdy_len hf
  have h5 := fst_t hf
  rw [List.length_drop] at h5
  refine ⟨hf, e1.symm, ?_, take_ends hk, ?_⟩
  · rw [e1]; exact h4.symm
  · rw [e1, h4]; omega
theorem rec_end (t : List Nat) : fst? (t.drop (pos t (recs t).length)) = false := by
  obtain ⟨h1, h2⟩ := recs_at t _ (Nat.le_refl _)
  cases hf : fst? (t.drop (pos t (recs t).length)) with
  | false => rfl
  | true =>
    have h3 := recs_t hf
    rw [h1, List.drop_length] at h3
    cases h3
/-- the slice that is handed on for the k-th record -/
def recV (a : Option Addr) (cap : Nat) (t : List Nat) (k : Nat) : Value := .slice (a.map fun x => ⟨x.block, x.off + pos t k + 2, none⟩) ((recs t).getD k []).length (cap - pos t k - 2)
/-- a round keeps what lay below, and the remainders -/
def KpR (n₀ : Nat) (W W' : World) : Prop := Below n₀ W W' ∧ ∀ (j : Nat) (cs : Array Value) (f : Nat × Nat), W.heap[j]? = some (Obj.cells cs 54 f) → W'.heap[j]? = some (Obj.cells cs 54 f)
theorem KpR.t {n₀ : Nat} {X Y Z : World} (h : KpR n₀ X Y) (k : KpR n₀ Y Z) : KpR n₀ X Z := ⟨h.1.trans k.1, fun j cs f q => k.2 j cs f (h.2 j cs f q)⟩
theorem KpR.b {n₀ : Nat} {w : World} (hn : n₀ ≤ w.heap.size) (W : World) (l : Nat) (o o' : Obj) (hl : w.heap.size ≤ l) (h : W.heap[l]? = some o) (h1 : o.isCells = false) (h2 : o.isWalk = false) : KpR n₀ W (W.putObj l o') :=
  ⟨belowK_b hn W l o o' hl h h1 h2, fun j cs f q => by
    have hj : j ≠ l := fun e => by subst e; rw [h] at q; cases q; simp [Obj.isCells] at h1
    rw [World.putObj_heap_other hj]; exact q⟩
def lenOf : Value → Nat
  | .slice _ n _ => n
  | _ => 0
theorem kgrownU {w w' : World} (h : Kpt w w') : w.grownBy w' none := ⟨Below.os h, Below.tape h, Below.output h, Below.size h, fun k hk _ => Below.block h k hk⟩
theorem fin_take {n k : Nat} (h : k < n) : (List.finRange n).take (k + 1) = (List.finRange n).take k ++ [⟨k, h⟩] := by
  rw [List.take_succ_eq_append_getElem (by simpa using h)]; simp
theorem RowW.kpr {n₀ : Nat} {w w' : World} {g : Nat} {ns : List Nat} (h : RowW w g ns) (k : KpR n₀ w w') : RowW w' g ns := k.2 _ _ _ h
theorem fin_pre {n k : Nat} : (List.finRange n).take k <+: List.finRange n := List.take_prefix _ _

set_option maxRecDepth 100000 in
set_option maxHeartbeats 4000000 in
theorem recIter_in (n : Nat) (hn : 1 ≤ n) (l : Nat) (w0 : World) (a : Option Addr) (cap : Nat) (t : List Nat) (Bs : Nat) (hR : ReadsU w0 (.slice a t.length cap) t)
    (J Jx : List (Fin (recs t).length) → World → Prop) (W0 : World) (hJ : AbidesFrom W0.heap.size J) (g0 : Kpt w0 W0) (hB : W0.cell? ⟨Bs, 0, none⟩ = some (.slice a t.length cap))
    (hY : ∀ pre x W1, J pre W1 → pre.length < (recs t).length → YieldAt Fence.wide (n - 1) Try.prog l #[recV a cap t x.1] W1 fun e W' =>
      (e = .returned (.bool true) ∧ J (pre ++ [x]) W' ∧ KpR w0.heap.size W1 W') ∨ (e = .returned (.bool false) ∧ Jx (pre ++ [x]) W'))
    (h0 : J [] W0) :
    CallsIn Fence.wide n Try.prog 29 #[.func (.yield l) #[] #[], .pointer (some ⟨Bs, 0, none⟩)] W0 fun e W' => (∃ v, e = .returned v) ∧
      ((∃ ys, ys = List.finRange (recs t).length ∧ J ys W') ∨ (∃ pre, pre <+: List.finRange (recs t).length ∧ Jx pre W')) := by
  have hlc := hR.form
  have h47 := hR.len
  have HR := Lib.hid hR
  have HJ := Lib.hid hJ
  have G0 := Lib.hid g0
  have HY := Lib.hid hY
  have c0 := hB
  have H0 : Hid (J [] W0) := h0
  clear hR hJ g0 hY hB h0
  refine callsIn_of_wp Try.func29 rfl trivial ?_ rfl
  simp only [Try.ntmps29, List.size_toArray, List.length_cons, List.length_nil, Nat.reduceAdd, Nat.reduceSub, Array.replicate_succ, Array.replicate_zero, List.push_toArray, List.append_toArray, List.nil_append, List.cons_append]
  gi_wp2_with (refine ⟨trivial, ?_⟩; gi_at_call 20; refine (callsIn_wide.2 (rem_run _)).mono ?_; rintro e w1 ⟨⟨g, rfl, hr, -⟩, k1⟩; have HW := Lib.hid hr; have G1 := Lib.hid k1; have H1 := Lib.hid (HJ.out _ W0 w1 none H0.out (kgrownU k1) (fun r e => by cases e)); have c1 := Kpt.cell k1 c0; clear hr k1)
  clear c0 c1 H0
  gi_loopw [4] (fun u wr => ∃ (k : Nat) (a' : Option Addr), k ≤ (recs t).length ∧ u = .slice a' (t.length - pos t k) (cap - pos t k) ∧ Hid (ReadsU w0 (.slice a' (t.length - pos t k) (cap - pos t k)) (t.drop (pos t k))) ∧ Hid (0 < t.length - pos t k → a' = a.map fun x => ⟨x.block, x.off + pos t k, none⟩) ∧ Hid (J ((List.finRange (recs t).length).take k) wr) ∧ Hid (Kpt w0 wr) ∧ Hid (RowW wr g (remL 256))) (fun u _ => lenOf u)
  case atStart =>
    have e0 : pos t 0 = 0 := rfl
    refine ⟨0, a, Nat.zero_le _, by rw [e0, Nat.sub_zero, Nat.sub_zero], ?_, ?_, H1.out, ktr G0.out G1.out, HW.out⟩
    · rw [e0]; exact HR.out
    · intro h
      rw [e0] at h ⊢
      obtain ⟨b, off, rfl⟩ := HR.out.some (by omega)
      rfl
  case round =>
    obtain ⟨k, a', hk, rfl, HU, HA, HJs, HK, HRow⟩ := hrel
    have FR := first_run g _ _ wr HRow.out (HU.out.kpt HK.out)
    have hml : (t.drop (pos t k)).length = t.length - pos t k := List.length_drop
    by_cases hlt : k < (recs t).length
    · obtain ⟨hf, hbd, hfs, hpos, hle⟩ := rec_is hlt
      obtain ⟨b', off', rfl⟩ := HU.out.some (by rw [hml]; omega)
      have HV : Hid (recV a cap t k = .slice (some ⟨b', off' + 2, none⟩) ((recs t).getD k []).length (cap - pos t k - 2)) := by
        have e := HA.out (by omega)
        cases a with
        | none => cases e
        | some x =>
          simp only [Option.map_some, Option.some.injEq, Addr.mk.injEq] at e
          obtain ⟨rfl, rfl, -⟩ := e
          unfold Hid recV; simp
      have hA2 : Hid ((some ⟨b', off' + (((recs t).getD k []).length + 6), none⟩ : Option Addr) = a.map fun x => ⟨x.block, x.off + pos t (k + 1), none⟩) := by
        have e := HA.out (by omega)
        cases a with
        | none => cases e
        | some x =>
          simp only [Option.map_some, Option.some.injEq, Addr.mk.injEq] at e
          obtain ⟨rfl, rfl, -⟩ := e
          exact congrArg (fun z => some (⟨x.block, z, none⟩ : Addr)) (by omega)
      have F2 : Hid (Calls Try.prog 30 #[.pointer (some ⟨g, 0, none⟩), .slice (some ⟨b', off', none⟩) (t.length - pos t k) (cap - pos t k)] wr fun e w' => e = .returned (.tuple #[.slice (some ⟨b', off' + 2, none⟩) ((recs t).getD k []).length (cap - pos t k - 2), .bool true]) ∧ Kpt wr w') := by
        refine FR.mono ?_
        rintro e w' ⟨u1, u2, u3, rfl, hu, k2⟩
        obtain ⟨b2, o2, c2, q, rfl, rfl, rfl⟩ := hu hf
        injection q with q1 q2 q3
        injection q1 with q1
        injection q1 with q4 q5 _
        subst q4 q5 q3
        rw [hf, hfs]
        exact ⟨rfl, k2⟩
      have HF := Lib.hid (fin_take hlt)
      have hlen : ((List.finRange (recs t).length).take k).length < (recs t).length := by simp; omega
      have hyk := fun W1 (h : J ((List.finRange (recs t).length).take k) W1) => HY.out _ ⟨k, hlt⟩ W1 h hlen
      dsimp only at hyk
      rw [HV.out] at hyk
      have HYK := Lib.hid hyk
      have LR := Lib.hid (fun w => length_run (some ⟨b', off' + 2, none⟩) ((recs t).getD k []).length (cap - pos t k - 2) w (by omega))
      have hmc : t.length - pos t k ≤ cap - pos t k := by obtain ⟨a2, c2, e, h1, -⟩ := hlc; injection e; omega
      have HD := Lib.hid (HU.out.drop (n := ((recs t).getD k []).length + 6) (by rw [hml]; omega))
      have HP := Lib.hid hpos
      have hle2 : ((recs t).getD k []).length + 6 ≤ t.length - pos t k := by omega
      clear FR hml hf hbd hfs hpos hle hlen hyk hlc HV HA
      generalize ((recs t).getD k []).length = N at *
      have n0 : (0 : Int) ≤ (N : Int) + 6 := by omega
      have n1 : (N : Int) + 6 ≤ ((t.length - pos t k : Nat) : Int) := by omega
      generalize hm : t.length - pos t k = m at *
      generalize hcc : cap - pos t k = c at *
      have HM := Lib.hid hm
      have HC := Lib.hid hcc
      clear hm hcc
      gi_wp2_with (first
        | (refine ⟨trivial, ?_⟩; gi_at_call 30; refine (callsIn_wide.2 F2.out).mono ?_; rintro e w2 ⟨rfl, k2⟩; have K2 := Lib.hid k2; clear k2; obtain ⟨fn, tmps, assign, body, hy, hR⟩ := HYK.out w2 (HJ.out _ wr w2 none HJs.out (kgrownU K2.out) (fun r e => by cases e)); have HR2 := Lib.hid hR; clear hR))
      refine HR2.out.mono ?_
      rintro e W3 (⟨rfl, hJ3, hk3⟩ | ⟨rfl, hJx3⟩)
      · gi_wp2_with (refine ⟨trivial, ?_⟩; gi_at_call 22; refine (callsIn_wide.2 (LR.out _)).mono ?_; rintro e w' ⟨rfl, rfl⟩)
        have e1 : t.length - pos t (k + 1) = m - (N + 6) := by have := HP.out; have := HM.out; omega
        have e2 : cap - pos t (k + 1) = c - (N + 6) := by have := HP.out; have := HC.out; omega
        have e3 : t.drop (pos t (k + 1)) = (t.drop (pos t k)).drop (N + 6) := by rw [List.drop_drop, HP.out, Nat.add_assoc]
        refine ⟨⟨k + 1, _, hlt, by rw [e1, e2], ?_, ?_, by unfold Hid; rw [HF.out]; exact hJ3, (HK.out.trans (Below.mono K2.out (Below.size HK.out))).trans hk3.1, (HRow.out.kpt K2.out).kpr hk3⟩, ?_⟩
        · rw [e1, e2, e3]
          by_cases hc : c = N + 6
          · rw [if_pos hc]
            have hz : m - (N + 6) = 0 := by omega
            have hz2 : (t.drop (pos t k)).drop (N + 6) = [] := List.eq_nil_of_length_eq_zero (by rw [List.length_drop, List.length_drop]; have := HM.out; omega)
            rw [hz, hz2, show c - (N + 6) = 0 by omega]
            exact ⟨_, 0, rfl, Nat.le_refl _, ⟨Nat.zero_le _, Nat.zero_le _⟩, (fun e => by cases e), (fun b hb => by cases hb), fun j hj => absurd hj (Nat.not_lt_zero j)⟩
          · rw [if_neg hc]; exact HD.out
        · intro h
          rw [e1] at h
          rw [if_neg (by omega)]
          exact hA2.out
        · show m - (N + 6) < m
          omega
      · gi_wp2
        refine bodyPost_ret (results_none rfl _ _ _) rfl ?_
        exact ⟨⟨_, rfl⟩, .inr ⟨_, by rw [← HF.out]; exact fin_pre, hJx3⟩⟩
    · obtain rfl : k = (recs t).length := by omega
      have hf := rec_end t
      have F2 : Hid (Calls Try.prog 30 #[.pointer (some ⟨g, 0, none⟩), .slice a' (t.length - pos t (recs t).length) (cap - pos t (recs t).length)] wr fun e w' => (∃ u1 u2 u3, e = .returned (.tuple #[.slice u1 u2 u3, .bool false])) ∧ Kpt wr w') := by
        refine FR.mono ?_
        rintro e w' ⟨u1, u2, u3, rfl, hu, k2⟩
        rw [hf]
        exact ⟨⟨_, _, _, rfl⟩, k2⟩
      clear FR hml hf HA
      generalize t.length - pos t (recs t).length = m at *
      generalize cap - pos t (recs t).length = c at *
      gi_wp2_with (refine ⟨trivial, ?_⟩; gi_at_call 30; refine (callsIn_wide.2 F2.out).mono ?_; rintro e w2 ⟨⟨u1, u2, u3, rfl⟩, k2⟩; have K2 := Lib.hid k2; clear k2)
      refine ⟨fun _ h => (by cases h), ?_⟩
      gi_wp2
      refine bodyPost_ret (results_none rfl _ _ _) rfl ?_
      refine ⟨⟨_, rfl⟩, .inl ⟨_, rfl, ?_⟩⟩
      have := HJ.out _ wr w2 none HJs.out (kgrownU K2.out) (fun r e => by cases e)
      rwa [List.take_of_length_le (by simp)] at this

end Go.Proofs.Ytljdffkelocfbaa
