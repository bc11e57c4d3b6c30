/-
  Merged: RefDue.
-/
import Derived.Test.YtgccipmeiceonaaGreatMa34
import Derived.Test.YtgccipmeiceonaaGreatMa26
import Derived.Test.YtgccipmeiceonaaGreatMa27
-- RefDue
namespace Go.Proofs.YtgccipmeiceonaaGreat
open Go.RowKit
set_option linter.unusedVariables false

def dueA1 (p : Int × Int × Int) (x : Int) : List Int := if p.2.1 = x then [p.2.2] else if p.1 = x then [-p.2.2] else []
def dueA (l : List (Int × Int × Int)) (x : Int) : List Int := l.flatMap fun p => dueA1 p x
theorem dueA_more {l : List (Int × Int × Int)} {k : Nat} (hk : k < l.length) (x : Int) : dueA (l.take (k + 1)) x = dueA (l.take k) x ++ dueA1 (l.getD k default) x := by
  rw [List.take_succ_eq_append_getElem hk, List.getD_eq_getElem?_getD, List.getElem?_eq_getElem hk]
  simp only [dueA, List.flatMap_append, List.flatMap_cons, List.flatMap_nil, List.append_nil, Option.getD_some]
theorem dueA_len (l : List (Int × Int × Int)) (x : Int) : (dueA l x).length ≤ l.length := by
  induction l with
  | nil => exact Nat.le_refl _
  | cons p l ih =>
    have e : dueA (p :: l) x = dueA1 p x ++ dueA l x := by simp [dueA]
    rw [e, List.length_append, List.length_cons]
    unfold dueA1
    split
    · simp; omega
    · split
      · simp; omega
      · simp; omega
theorem dueA_sum (l : List (Int × Int × Int)) (hl : ∀ p ∈ l, dueO p) (x : Nat) : (dueA l (x : Int)).sum = standF l x := by
  induction l with
  | nil => rfl
  | cons p l ih =>
    have e : dueA (p :: l) (x : Int) = dueA1 p x ++ dueA l x := by simp [dueA]
    have hp := (hl p (by simp)).2
    have := ih fun q hq => hl q (by simp [hq])
    rw [e, List.sum_append, this, standF]
    unfold dueA1
    by_cases h1 : p.2.1 = (x : Int)
    · rw [if_pos h1, if_pos h1, if_neg (by omega)]; simp
    · rw [if_neg h1, if_neg h1]
      by_cases h2 : p.1 = (x : Int)
      · rw [if_pos h2, if_pos h2]; simp
      · rw [if_neg h2, if_neg h2]; simp
theorem dueA_amt (l : List (Int × Int × Int)) (hl : ∀ p ∈ l, dueO p) (x : Int) : ∀ z ∈ dueA l x, amtB z = true := by
  intro z hz
  obtain ⟨p, hp, hz⟩ := List.mem_flatMap.1 hz
  have hb := due_t (hl p hp).1
  unfold dueA1 at hz
  split at hz
  · rw [List.mem_singleton.1 hz]; exact amt_mk (by omega) (by omega)
  · split at hz
    · rw [List.mem_singleton.1 hz]; exact amt_mk (by omega) (by omega)
    · cases hz

set_option maxRecDepth 100000 in
set_option maxHeartbeats 2000000 in
theorem rdt_run (v : Value) (l : List (Int × Int × Int)) (x : Int) (w : World) (hr : ReadsP w v l) (hn : l.length ≤ 60) (ho : ∀ p ∈ l, dueO p) : Calls Tryz.prog 64 #[v, .int .i64 x, .int .i64 (-1)] w fun e w' => ∃ v', e = .returned v' ∧ Hid (Owns w' w.heap.size v' (dueA l x)) ∧ Hid (Kpt w w') := by
  obtain ⟨a, cap, rfl, -, -, -, hc⟩ := hr
  have HC := Lib.hid hc
  have HO1 : Hid (∀ k, k < l.length → dueO (l.getD k default)) := fun k hk => by
    rw [List.getD_eq_getElem?_getD, List.getElem?_eq_getElem hk]; exact ho _ (List.getElem_mem hk)
  clear hc ho
  go_enter Tryz.func64, Tryz.ntmps64
  go_wp2
  go_loopw [7, 8] (fun m i wr => ∃ k : Nat, k ≤ l.length ∧ i = .int .i64 k ∧ Hid (Owns wr w.heap.size m (dueA (l.take k) x)) ∧ Hid (Kpt w wr)) (fun _ i _ => l.length - (intOf i).toNat)
  case atStart => exact ⟨0, Nat.zero_le _, rfl, Owns.nil _ _, Kpt.refl _⟩
  case round =>
    obtain ⟨k, hk, rfl, HO, HJ⟩ := hrel
    by_cases hlt : k < l.length
    · obtain ⟨y, off, rfl, c0, c1, c2⟩ := HC.out k hlt
      have d0 := HJ.out.cell c0
      have d1 := HJ.out.cell c1
      have d2 := HJ.out.cell c2
      have hm := dueA_more hlt x
      have hn2 := dueA_len (l.take k) x
      rw [List.length_take] at hn2
      obtain ⟨o1, o2⟩ := HO1.out k hlt
      have ob := due_t o1
      clear c1 c2 o1
      generalize l.getD k default = p at c0 d0 d1 d2 hm o2 ob
      obtain ⟨F, T, N⟩ := p
      simp only at c0 d0 d1 d2 o2 ob
      unfold dueA1 at hm
      simp only at hm
      have m0 : IntKind.i64.wrap (-N) = -N := IntWalk.i64_in _ (by omega)
      have hn3 : (dueA (l.take k) x).length ≤ 60 := by omega
      clear hn2 ob
      by_cases h1 : T = x
      · have HM := Lib.hid (hm.trans (by rw [if_pos h1]) : _ = dueA (l.take k) x ++ [N])
        have q1 : (T == x) = true := beq_iff_eq.2 h1
        have q2 : (F == x) = false := beq_eq_false_iff_ne.2 (by omega)
        clear hm h1 o2
        go_wp2_with (at_builtin; refine wp_append1 rfl (.tmp 35) (.tmp 41) rfl w.heap.size _ _ N wr rfl HO.out rfl (by omega) HJ.out.size ?_; intro v' w' h1 h2; have HO' : Hid (Owns w' w.heap.size v' (dueA (l.take (k + 1)) x)) := (by unfold Hid; rw [HM.out]; exact h1); have HJ' : Hid (Kpt w w') := Below.trans HJ.out h2; have e0 := HJ'.out.cell c0; clear h1 h2)
        go_roundw
        case rel => exact ⟨k + 1, by omega, by go_num, HO'.out, HJ'.out⟩
        case measure => simp [intOf]; omega
      · have q1 : (T == x) = false := beq_eq_false_iff_ne.2 h1
        by_cases h2 : F = x
        · have HM := Lib.hid (hm.trans (by rw [if_neg h1, if_pos h2]) : _ = dueA (l.take k) x ++ [-N])
          have q2 : (F == x) = true := beq_iff_eq.2 h2
          clear hm h1 h2 o2
          go_wp2_with (at_builtin; refine wp_append1 rfl (.tmp 63) (.tmp 70) rfl w.heap.size _ _ (-N) wr rfl HO.out rfl (by omega) HJ.out.size ?_; intro v' w' h1 h2; have HO' : Hid (Owns w' w.heap.size v' (dueA (l.take (k + 1)) x)) := (by unfold Hid; rw [HM.out]; exact h1); have HJ' : Hid (Kpt w w') := Below.trans HJ.out h2; clear h1 h2)
          go_roundw
          case rel => exact ⟨k + 1, by omega, by go_num, HO'.out, HJ'.out⟩
          case measure => simp [intOf]; omega
        · have HM := Lib.hid (hm.trans (by rw [if_neg h1, if_neg h2, List.append_nil]) : _ = dueA (l.take k) x)
          have q2 : (F == x) = false := beq_eq_false_iff_ne.2 h2
          have HO' : Hid (Owns wr w.heap.size u7 (dueA (l.take (k + 1)) x)) := by unfold Hid; rw [HM.out]; exact HO.out
          clear hm h1 h2 o2
          go_wp2
          go_roundw
          case rel => exact ⟨k + 1, by omega, by go_num, HO'.out, HJ.out⟩
          case measure => simp [intOf]; omega
    · have e : l.take k = l := List.take_of_length_le (by omega)
      rw [e] at HO
      clear e
      go_wp2
      go_ret
      exact ⟨_, rfl, HO.out, HJ.out⟩

end Go.Proofs.YtgccipmeiceonaaGreat
