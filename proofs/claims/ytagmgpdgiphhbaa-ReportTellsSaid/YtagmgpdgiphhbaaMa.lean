/-
  Merged: RepF, RepG, RepH.
-/
import Derived.Test.YtagmgpdgiphhbaaM8
import Derived.Test.YtagmgpdgiphhbaaSl
import Derived.Test.YtagmgpdgiphhbaaRowN
import Derived.Test.YtagmgpdgiphhbaaShelf2
import Derived.Shelf.SlSortCmp.QuietGrown
import Derived.Shelf.SlSortCmp.WholeK
import Derived.StillTailTactics
-- RepF
namespace Go.Proofs.Ytagmgpdgiphhbaa
open Go.RowKit Go.Sort Go.Lib
set_option linter.unusedVariables false

/-- the first that is not nought -/
def orF : List Int → Int
  | [] => 0
  | x :: l => if x = 0 then orF l else x
set_option maxHeartbeats 1000000 in
theorem or_any (v : Value) (zs : List Int) (w : World) (hr : Reads w v zs) (hm : zs.length ≤ 100000) : Calls Try.prog 26 #[v] w fun e w' => e = .returned (.int .i64 (orF zs)) ∧ w = w' := by
  obtain ⟨a, cap, rfl, -, -⟩ := id hr
  have HR := Lib.hid hr.sl
  obtain ⟨X, hX⟩ : ∃ X, X = orF zs := ⟨_, rfl⟩
  rw [← hX]
  have HX0 : Hid (X = orF (zs.drop 0)) := hX
  have DR : Hid (∀ k, k < zs.length → zs.drop k = zs.getD k 0 :: zs.drop (k + 1)) := fun k hk => by
    rw [List.drop_eq_getElem_cons hk, List.getD_eq_getElem?_getD, List.getElem?_eq_getElem hk]; rfl
  have DE : Hid (zs.drop zs.length = []) := List.drop_length
  clear hX hr
  go_enter Try.func26, Try.ntmps26
  go_wp2
  go_loop [8] (fun i => ∃ k : Nat, k ≤ zs.length ∧ i = .int .i64 k ∧ Hid (X = orF (zs.drop k))) (fun i => zs.length - (intOf i).toNat)
  case atStart => exact ⟨0, Nat.zero_le _, rfl, HX0.out⟩
  case round =>
    obtain ⟨k, hk, rfl, HE⟩ := hrel
    by_cases hlt : k < zs.length
    · obtain ⟨b, off, rfl, c1⟩ := HR.out k hlt
      have he := HE.out
      rw [DR.out k hlt] at he
      clear HE
      generalize zs.getD k 0 = z at *
      unfold orF at he
      have k0 : (0 : Int) ≤ (k : Int) := by omega
      have k1 : (k : Int) < zs.length := by omega
      by_cases hz : z = 0
      · rw [if_pos hz] at he
        have q : (z != 0) = false := by simpa using hz
        have HE2 := Lib.hid he
        clear he hz
        go_wp2
        go_round
        case rel => exact ⟨k + 1, by omega, by go_num, HE2.out⟩
        case measure => simp [intOf]; omega
      · rw [if_neg hz] at he
        have q : (z != 0) = true := bne_iff_ne.2 hz
        have HE2 := Lib.hid he
        clear he hz
        go_wp2
        go_ret
        exact ⟨ret_int HE2.out.symm, rfl⟩
    · obtain rfl : k = zs.length := by omega
      have he := HE.out
      rw [DE.out] at he
      have HE2 : Hid (X = 0) := he
      clear he HE
      go_wp2
      go_ret
      exact ⟨ret_int HE2.out.symm, rfl⟩


theorem two_new (w : World) (x y : Int) : Reads (w.alloc (.cells #[.int .i64 x, .int .i64 y] 3)) (.slice (some ⟨w.heap.size, 0, none⟩) 2 2) [x, y] := by
  have B := Blk.made w #[.int .i64 x, .int .i64 y] 3
  refine reads_mk rfl (by unfold maxLen; decide) fun j hj => ?_
  rw [Nat.zero_add]
  rcases (show j = 0 ∨ j = 1 by simp at hj; omega) with rfl | rfl
  · exact B.cell 0
  · exact B.cell 1
/-- the comparison of two values with their numbers -/
def cmpW (x y : List Int) : Int := orF [Lib.compareInt (y.getD 1 0) (x.getD 1 0), Lib.compareInt (x.getD 0 0) (y.getD 0 0)]
/-- x stands ahead of y -/
def ahdW (x y : List Int) : Prop := y.getD 1 0 < x.getD 1 0 ∨ (x.getD 1 0 = y.getD 1 0 ∧ x.getD 0 0 < y.getD 0 0)
theorem cmpW_lt (x y : List Int) : cmpW x y < 0 ↔ ahdW x y := by
  unfold cmpW ahdW orF orF orF Lib.compareInt
  generalize x.getD 1 0 = a
  generalize y.getD 1 0 = b
  generalize x.getD 0 0 = c
  generalize y.getD 0 0 = d
  split <;> rename_i h1 <;> (repeat' split at h1) <;> (repeat' split) <;> omega
theorem swoW : SWO (ltOf cmpW) := by
  have e : ∀ x y : List Int, ltOf cmpW x y = true ↔ ahdW x y := fun x y => by unfold ltOf; rw [decide_eq_true_iff]; exact cmpW_lt x y
  have e' : ∀ x y : List Int, ltOf cmpW x y = false ↔ ¬ ahdW x y := fun x y => by rw [← e, Bool.not_eq_true]
  refine ⟨fun x => ?_, fun x y z h1 h2 => ?_, fun x y z h1 h2 => ?_⟩
  · rw [e']; unfold ahdW; omega
  · rw [e] at *; unfold ahdW at *; omega
  · rw [e'] at *; unfold ahdW at *; omega

set_option maxRecDepth 100000 in
set_option maxHeartbeats 1000000 in
theorem wcmp_run (x y : List Int) (W : World) : Calls Try.prog 25 #[.agg #[.int .i64 (x.getD 0 0), .int .i64 (x.getD 1 0)], .agg #[.int .i64 (y.getD 0 0), .int .i64 (y.getD 1 0)]] W fun e w' => e = .returned (.int .i64 (cmpW x y)) ∧ ∃ q os', w' = Go.Sort.grow (W.drewN q) os' := by
  have OR : Hid (∀ (w : World) (x y : Int) (H : Nat), w.heap.size = H → Calls Try.prog 26 #[.slice (some ⟨H, 0, none⟩) 2 2] (w.alloc (.cells #[.int .i64 x, .int .i64 y] 3)).drew fun e w' => e = .returned (.int .i64 (orF [x, y])) ∧ (w.alloc (.cells #[.int .i64 x, .int .i64 y] 3)).drew = w') := fun w x y H h => by
    subst h; exact or_any _ [x, y] _ ((two_new w x y).kpt (show Kpt _ (World.drew _) from Below.drew (Kpt.refl _))) (by simp)
  unfold cmpW
  generalize x.getD 0 0 = a
  generalize x.getD 1 0 = b
  generalize y.getD 0 0 = c
  generalize y.getD 1 0 = d
  obtain ⟨r1, hr1⟩ : ∃ r, Lib.compareInt d b = r := ⟨_, rfl⟩
  obtain ⟨r2, hr2⟩ : ∃ r, Lib.compareInt a c = r := ⟨_, rfl⟩
  have C1 : ∀ w, Calls Try.prog 27 #[.int .i64 d, .int .i64 b] w fun e w' => e = .returned (.int .i64 r1) ∧ w' = w := fun w => by rw [← hr1]; exact Try.cmp_Compare_int d b w
  have C2 : ∀ w, Calls Try.prog 27 #[.int .i64 a, .int .i64 c] w fun e w' => e = .returned (.int .i64 r2) ∧ w' = w := fun w => by rw [← hr2]; exact Try.cmp_Compare_int a c w
  have D1 := Lib.hid C1
  have D2 := Lib.hid C2
  rw [hr1, hr2]
  clear C1 C2 hr1 hr2
  go_enter Try.func25, Try.ntmps25
  go_wp2
  have B0 := (Blk.made W #[.int .i64 a, .int .i64 b] 57).alloc (.cells #[.int .i64 c, .int .i64 d] 57)
  have B1 : Blk ((W.alloc (.cells #[.int .i64 a, .int .i64 b] 57)).alloc (.cells #[.int .i64 c, .int .i64 d] 57)) (W.heap.size + 1) #[.int .i64 c, .int .i64 d] 57 := by
    have := Blk.made (W.alloc (.cells #[.int .i64 a, .int .i64 b] 57)) #[.int .i64 c, .int .i64 d] 57
    rwa [World.size_alloc] at this
  have HE : Hid (∀ o, ∃ q os', (((W.alloc (.cells #[.int .i64 a, .int .i64 b] 57)).alloc (.cells #[.int .i64 c, .int .i64 d] 57)).alloc o).drew = Go.Sort.grow (W.drewN q) os') := fun o => ⟨1, _, by rw [alloc_eq_grow, alloc_eq_grow, alloc_eq_grow, grow_grow, grow_grow]; rfl⟩
  generalize (W.alloc (.cells #[.int .i64 a, .int .i64 b] 57)).alloc (.cells #[.int .i64 c, .int .i64 d] 57) = W2 at *
  have f0 : W2.drew.cell? ⟨W.heap.size, 0, none⟩ = some (.int .i64 a) := B0.cell 0
  have f1 : W2.drew.cell? ⟨W.heap.size, 1, none⟩ = some (.int .i64 b) := B0.cell 1
  have g0 : W2.drew.cell? ⟨W.heap.size + 1, 0, none⟩ = some (.int .i64 c) := B1.cell 0
  have g1 : W2.drew.cell? ⟨W.heap.size + 1, 1, none⟩ = some (.int .i64 d) := B1.cell 1
  refine wp_region_still_tail 10 (by kernel_rfl) (by kernel_rfl) ?_
  simp only [List.take_succ_cons, List.take_zero, List.drop_succ_cons, List.drop_zero]
  iterate 4 still_step
  still_call (D1.out _)
  iterate 4 still_step
  still_call (D2.out _)
  refine wpStill_nil ?_
  change wpList _ _ _ _ _ W2.drew
  go_wp2_with (go_at_call 26; (with_reducible refine (OR.out _ _ _ _ rfl).mono ?_); rintro e w1 ⟨rfl, rfl⟩)
  go_ret
  exact ⟨rfl, HE.out _⟩

end Go.Proofs.Ytagmgpdgiphhbaa

-- RepG
namespace Go.Proofs.Ytagmgpdgiphhbaa
open Go.RowKit Go.Sort Go.Lib
set_option linter.unusedVariables false

theorem flatK_n (N : Nat) (ps : List (List Int)) (hN : 0 < N) : flatK (rowN N) N ps.toArray = (flatN N ps).toArray := by
  apply Array.ext
  · simp [flatN_len]
  · intro t h1 h2
    have ht : t < ps.length * N := by simpa using h1
    apply Option.some.inj
    rw [← Array.getElem?_eq_getElem, ← Array.getElem?_eq_getElem]
    have hr : t % N < N := Nat.mod_lt _ hN
    have ed : t / N * N + t % N = t := by rw [Nat.mul_comm]; exact Nat.div_add_mod t N
    have hq : t / N < ps.length := Nat.div_lt_of_lt_mul (by rw [Nat.mul_comm]; exact ht)
    have e := get_flatK (rowN N) N ps.toArray t (by simpa using ht)
    rw [Array.getElem?_eq_getElem h1, ← getElem!_pos (flatK (rowN N) N ps.toArray) t h1, e]
    have e0 := flatN_at (N := N) ps (t / N) (t % N) hq hr
    rw [ed] at e0
    have eg : ps.toArray[t / N]! = ps.getD (t / N) [] := by
      rw [getElem!_pos ps.toArray (t / N) (by simpa using hq), List.getD_eq_getElem?_getD, List.getElem?_eq_getElem hq]; simp
    rw [eg, List.getElem?_toArray, e0]
    have e1 := rowN_at (N := N) (ps.getD (t / N) []) hr
    have hl : t % N < (rowN N (ps.getD (t / N) [])).length := by rw [rowN_len]; exact hr
    rw [getElem!_pos (rowN N (ps.getD (t / N) [])) (t % N) hl, ← List.getElem?_eq_getElem hl, e1]
theorem heap_put {w : World} {g n : Nat} {os : Array Obj} {cur : Array Value} {e : TypeId} {fr : Nat × Nat} (d : Array Value) (hb : w.heap[g]? = some (.cells cur e fr)) :
    (Go.Sort.grow (putRow id (Sort.ahead w n) g 0 d) os).heap[g]? = some (.cells (putCells id 0 d cur) e fr) := by
  have hg : g < w.heap.size := (Array.getElem?_eq_some_iff.1 hb).1
  rw [heap_grow_old _ _ (by simpa using hg)]
  simp [putRow, mapBlock, Sort.ahead, Array.getElem?_modify, hb, onCells]
theorem grown_put {w : World} {g n : Nat} {os : Array Obj} (d : Array Value) : w.grownBy (Go.Sort.grow (putRow id (Sort.ahead w n) g 0 d) os) (some g) := by
  refine ⟨rfl, rfl, rfl, by simp, fun k hk hne => ?_⟩
  rw [heap_grow_old _ _ (by simpa using hk)]
  have : g ≠ k := fun e => hne (by rw [e])
  simp [putRow, mapBlock, Sort.ahead, Array.getElem?_modify, this]
theorem take_put (cur : Array Value) (xs : List Value) (h : xs.length ≤ cur.size) : (putCells id 0 xs.toArray cur).toList.take xs.length = xs := by
  apply List.ext_getElem?
  intro j
  by_cases hj : j < xs.length
  · rw [List.getElem?_take_of_lt hj, Array.getElem?_toList]
    simp [putCells, hj, show j < cur.size by omega]
  · rw [List.getElem?_take_eq_none (by omega), List.getElem?_eq_none (by omega)]
theorem holds_n {N : Nat} (hN : 0 < N) {w : World} {g : Nat} {cur : Array Value} {e : TypeId} {ps : List (List Int)} (hb : w.heap[g]? = some (.cells cur e (0, 0))) (ht : cur.toList.take (ps.length * N) = flatN N ps) : HoldsK (rowN N) N w g 0 ps.toArray := by
  unfold HoldsK
  rw [flatK_n N ps hN]
  intro j hj
  have hj' : j < ps.length * N := by rw [← flatN_len]; simpa using hj
  refine ⟨?_, by simp [World.frozen?, hb]⟩
  have h1 : (cur.toList.take (ps.length * N))[j]? = (flatN N ps)[j]? := by rw [ht]
  rw [List.getElem?_take_of_lt hj'] at h1
  rw [Nat.zero_add, cell_of_row w g j cur e (0, 0) hb, ← Array.getElem?_toList, h1]
  rw [getElem!_pos (flatN N ps).toArray j hj]
  simp

theorem egW : ∀ args w, (callFunc 25 args).run Try.prog w = .ok (.enter 25 args) w := enters_of Try.func25 (by kernel_rfl) rfl

/-- slices.SortFunc at values of the call's own: they are put in their order -/
theorem sortW_run (w : World) (base blk cap : Nat) (ps : List (List Int)) (h : OwnsN 2 57 w base (.slice (some ⟨blk, 0, none⟩) ps.length cap) ps) (hn : ps.length ≤ 100000) :
    Calls Try.prog 24 #[.slice (some ⟨blk, 0, none⟩) ps.length cap, .func (.func 25) #[] #[]] w fun e w' =>
      e = .returned (.tuple #[]) ∧ ∃ qs : List (List Int), qs.Perm ps ∧ qs.Pairwise (fun x y => ¬ ahdW y x) ∧ OwnsN 2 57 w' base (.slice (some ⟨blk, 0, none⟩) qs.length cap) qs ∧ w.grownBy w' (some blk) := by
  rcases h.2 with ⟨e, _⟩ | ⟨k, cap', cur, e, hk, hh, hc, hm, hs, ht⟩
  · cases e
  · injection e with e1 e2 e3
    injection e1 with e1
    injection e1 with e1 _ _
    subst e1; subst e3
    have hlt : blk < w.heap.size := (Array.getElem?_eq_some_iff.1 hh).1
    have aE : ∀ w, (isAgg 57).run Try.prog w = .ok true w := fun w => by kernel_rfl
    have zE : ∀ w, (Go.sizeOf 57).run Try.prog w = .ok 2 w := fun w => by kernel_rfl
    have hcon := AnyQ.slices_SortFunc Try.sortW 2 aE zE (rowN 2) (fun _ => rfl) (fun x v hv => by obtain ⟨j, -, rfl⟩ := List.mem_map.1 hv; rfl) cmpW swoW 25 #[] blk 0 cap ps.toArray w egW (fun _ _ _ _ x y => wcmp_run x y _) (holds_n (by decide) hh ht) hlt (by simp; omega)
    refine hcon.mono ?_
    rintro e w' ⟨rfl, d', n, os, ⟨hsz, -, hp⟩, hso, rfl⟩
    have hl : d'.size = ps.length := by simpa using hsz
    refine ⟨rfl, d'.toList, ?_, ?_, ?_, ?_⟩
    · have e1 : (d'.extract 0 ps.toArray.size).toList = d'.toList := by simp [← hl]
      have e2 : (ps.toArray.extract 0 ps.toArray.size).toList = ps := by simp
      rw [e1, e2] at hp
      exact hp
    · rw [List.pairwise_iff_getElem]
      intro i j hi hj hij
      have hi' : i < d'.size := by simpa using hi
      have hj' : j < d'.size := by simpa using hj
      have := hso i j (Nat.zero_le _) hij (by simp; omega)
      rw [getElem!_pos d' i hi', getElem!_pos d' j hj'] at this
      unfold ltOf at this
      simp only [decide_eq_false_iff_not] at this
      simp only [Array.getElem_toList]
      exact fun q => this ((cmpW_lt _ _).2 q)
    · refine ⟨flatN_len 2 _, .inr ⟨blk, cap, putCells id 0 (flatN 2 d'.toList).toArray cur, rfl, hk, ?_, by simpa [hl] using hc, hm, by simp [putCells, hs], ?_⟩⟩
      · have := heap_put (n := n) (os := os) (flatN 2 d'.toList).toArray hh
        rw [← flatK_n 2 _ (by decide)] at this ⊢
        exact this
      · have := take_put cur (flatN 2 d'.toList) (by rw [flatN_len, hs]; simp [hl]; omega)
        rw [flatN_len] at this
        exact this
    · have := grown_put (w := w) (g := blk) (n := n) (os := os) (flatK (rowN 2) 2 d')
      exact this

set_option maxRecDepth 100000 in
set_option maxHeartbeats 1000000 in
theorem ins_nil (c : Nat) (w : World) : Calls Try.prog 69 #[.slice none 0 c, .int .i64 0, .int .i64 0, .func (.func 25) #[] #[]] w fun e w' => e = .returned (.tuple #[]) ∧ w = w' := by
  go_enter Try.func69, Try.ntmps69
  go_wp2
  go_loop [8] (fun i => i = .int .i64 1) (fun i => 0)
  case atStart => exact rfl
  case round =>
    subst hrel
    go_wp2
    go_end0
    exact ⟨rfl, rfl⟩
set_option maxRecDepth 100000 in
set_option maxHeartbeats 1000000 in
theorem pdq_nil (c : Nat) (k : Int) (w : World) : Calls Try.prog 54 #[.slice none 0 c, .int .i64 0, .int .i64 0, .int .i64 k, .func (.func 25) #[] #[]] w fun e w' => e = .returned (.tuple #[]) ∧ w = w' := by
  go_enter Try.func54, Try.ntmps54
  go_wp2
  go_loopw [1, 2, 3, 10, 11] (fun a b l p q wx => a = .int .i64 0 ∧ b = .int .i64 0 ∧ l = .int .i64 k ∧ p = .bool true ∧ q = .bool true ∧ Hid (w = wx)) (fun a b l p q _ => 0)
  case atStart => exact ⟨rfl, rfl, rfl, rfl, rfl, rfl⟩
  case round =>
    obtain ⟨rfl, rfl, rfl, rfl, rfl, HW⟩ := hrel
    go_wp2_with (go_at_call 69; (with_reducible refine (ins_nil c _).mono ?_); rintro e w1 ⟨rfl, rfl⟩)
    refine bodyPost_ret (results_none rfl _ _ _) rfl ?_
    exact ⟨rfl, HW.out⟩
set_option maxHeartbeats 1000000 in
theorem sort_nil (c : Nat) (w : World) : Calls Try.prog 24 #[.slice none 0 c, .func (.func 25) #[] #[]] w fun e w' => e = .returned (.tuple #[]) ∧ Kpt w w' := by
  go_enter Try.func24, Try.ntmps24
  go_wp2_with (first
    | (go_at_call 55; (with_reducible refine (Try.bits_Len 0 _ (by decide) (by decide)).mono ?_); rintro e w1 ⟨rfl, k1⟩)
    | (go_at_call 54; (with_reducible refine (pdq_nil c _ _).mono ?_); rintro e w2 ⟨rfl, rfl⟩))
  go_end0
  exact ⟨rfl, Kpt.refl _⟩

theorem Try.infoWorth : (Try.prog.info? 57).map (fun i => (i.zero, i.size, i.bytes)) = some (some (.agg #[.int .i64 0, .int .i64 0]), 2, 16) := by kernel_rfl
theorem wpIn_appendW {F : Fence} {n : Nat} {ops : Array Oper} {rest : List Oper} {o : Oper} {a : Act} {Q : Exit → Act → World → Prop} (hgd : o.guard = none) (s x : Operand)
    (ho : o.op = .call { callee := .builtin .append, args := #[s, x], argTypes := #[53, 53] })
    (base : Nat) (v : Value) (ps : List (List Int)) (q : List Int) (w : World) (g c : Nat) (cs : Array Value) (T' : TypeId) (hs : a.eval s = v) (hown : OwnsN 2 57 w base v ps) (hx : a.eval x = .slice (some ⟨g, 0, none⟩) 1 c) (hg : Blk w g cs T') (hcs : cs.toList = rowN 2 q)
    (hlen : ps.length + 1 ≤ 100000) (hbase : base ≤ w.heap.size)
    (h : ∀ v' w', OwnsN 2 57 w' base v' (ps ++ [q]) → w.grownBy w' v.ownBlock → wpListIn F n Try.prog ops Q rest (a.put o.dst v') w') : wpListIn F n Try.prog ops Q (o :: rest) a w := by
  obtain ⟨i0, hi, hz0, hz1, hz2⟩ := info_parts Try.infoWorth
  refine wpListIn_append_own _ hgd s x 53 ho base 57 i0 _ 2 16 Try.underlying53 hi hz0 hz1 hz2 rfl (by decide) v _ _ hs hown ⟨g, 0, none⟩ 1 c (rowN 2 q) hx (rowN_len 2 q) ?_ ?_ ?_ ?_ hbase ?_
  · intro j u hu
    exact World.news_of_block hg j u (by rw [hcs]; exact hu)
  · intro u hu
    obtain ⟨j, _, rfl⟩ := List.mem_map.1 hu
    rfl
  · unfold maxLen; omega
  · omega
  · intro v' w' h1 h2 _
    refine h v' w' ?_ h2
    unfold OwnsN
    rw [List.length_append, flatN_append]
    have : flatN 2 [q] = rowN 2 q := by simp [flatN]
    rw [this]
    exact h1

end Go.Proofs.Ytagmgpdgiphhbaa

-- RepH
namespace Go.Proofs.Ytagmgpdgiphhbaa
open Go.RowKit Go.Shelf
set_option linter.unusedVariables false
attribute [local go_sem] Oper.semAt_some

/-- the number of a fail, and the value of what is open of it -/
def wortL (ps l : List Int) : List Int := [l.getD 0 0, openL l * ps.getD (l.getD 4 0 - 1).toNat 0 / 10000]
def wortT (ps : List Int) (fs : List (List Int)) (xs : List (Fin fs.length)) : List (List Int) := xs.map fun x => wortL ps (fs.getD x.1 [])
theorem wortT_s (ps : List Int) (fs : List (List Int)) (xs : List (Fin fs.length)) (x : Fin fs.length) : wortT ps fs (xs ++ [x]) = wortT ps fs xs ++ [wortL ps (fs.getD x.1 [])] := by simp [wortT]
theorem topE_0 {fs : List (List Int)} {ps : List Int} {m : Int} (h : topE fs ps m = 0) : checksE fs = 0 ∧ prsE ps = 0 ∧ 0 ≤ m ∧ m ≤ 60 := by
  obtain ⟨h1, h2⟩ := orE_0 h
  obtain ⟨h3, h4⟩ := orE_0 h2
  refine ⟨h1, h3, ?_⟩
  unfold mnyE at h4
  split at h4
  · cases h4
  · omega
theorem prsE_0 {ps : List Int} (h : prsE ps = 0) : ps.length = 20 ∧ ∀ j, j < 20 → 0 ≤ ps.getD j 0 ∧ ps.getD j 0 ≤ 1099511627776 := by
  unfold prsE at h
  split at h
  · next e =>
    refine ⟨e, fun j hj => prc_t (prs_0 h _ ?_)⟩
    rw [List.getD_eq_getElem?_getD, List.getElem?_eq_getElem (by omega)]
    simp
  · cases h
theorem cost_priced {U p : Int} (h1 : 0 ≤ U ∧ U ≤ 1073741824) (h3 : 0 ≤ p ∧ p ≤ 1099511627776) (w : World) : Calls Try.prog 23 #[.int .i64 U, .int .i64 p] w fun e w' => e = .returned (.tuple #[.int .i64 (U * p / 10000), .int .i64 (cosR U p), .int .i64 0]) ∧ Kpt w w' := by
  have c := cost_any U p w
  have d := cos_dly (p := p) h1
  have hp : prcB p = true := prc_mk h3.1 h3.2
  rw [d.1, d.2, hp, if_pos rfl, if_pos rfl] at c
  exact c

theorem OwnsN.own {N : Nat} {T : TypeId} {w w' : World} {base : Nat} {u : Value} {fs : List (List Int)} {row : Option Nat} (h : OwnsN N T w base u fs) (g : w.grownBy w' row) (hr : ∀ r, row = some r → ∃ o : Obj, w.heap[r]? = some o ∧ o.isCells = false) : OwnsN N T w' base u fs := by
  obtain ⟨h1, h2⟩ := h
  refine ⟨h1, ?_⟩
  rcases h2 with h2 | ⟨k, cap, cur, rfl, hk, hh, r⟩
  · exact .inl h2
  · exact .inr ⟨k, cap, cur, rfl, hk, (g.block k (heap_lt hh) (fun e => by obtain ⟨o, ho, hc⟩ := hr k e.symm; rw [hh] at ho; cases ho; cases hc)).trans hh, r⟩
theorem Blk.norowN {N : Nat} {w : World} {g : Nat} {cs : Array Value} {T e : TypeId} (h : Blk w g cs T) (hT : T ≠ e) {base : Nat} {v : Value} {ps : List (List Int)} (hr : OwnsN N e w base v ps) : some g ≠ v.ownBlock := by
  rcases hr.2 with ⟨rfl, _⟩ | ⟨k, cap, cur, rfl, _, hh, _⟩
  · simp [Value.ownBlock]
  · intro e'
    have e'' : g = k := by simpa [Value.ownBlock] using e'
    subst e''
    rw [show w.heap[g]? = _ from h] at hh
    cases hh
    exact hT rfl
theorem Blk.grown {w w' : World} {g : Nat} {cs : Array Value} {T : TypeId} {row : Option Nat} (h : Blk w g cs T) (k : w.grownBy w' row) (hr : some g ≠ row) : Blk w' g cs T := (k.block g h.lt hr).trans h

/-- what lies in a round of Top -/
structure TS (n0 M : Nat) (pv dv : Value) (ws : List (List Int)) (W : World) : Prop where
  bp : Blk W n0 #[pv] 22
  bd : Blk W M #[dv] 53
  ow : OwnsN 2 57 W n0 dv ws
theorem TS.kpt {n0 M : Nat} {pv dv : Value} {ws : List (List Int)} {W W' : World} (h : TS n0 M pv dv ws W) (k : Kpt W W') : TS n0 M pv dv ws W' := ⟨h.bp.kpt k, h.bd.kpt k, h.ow.kpt k⟩
theorem TS.own {n0 M : Nat} {pv dv : Value} {ws : List (List Int)} {w w' : World} {row : Option Nat} (h : TS n0 M pv dv ws w) (k : w.grownBy w' row) (hr : ∀ r, row = some r → ∃ o : Obj, w.heap[r]? = some o ∧ o.isCells = false) : TS n0 M pv dv ws w' :=
  ⟨h.bp.own k hr, h.bd.own k hr, h.ow.own k hr⟩
/-- what a step of a round keeps -/
def Kpw (n0 : Nat) (W W' : World) : Prop := KeepsOthers W W' ∧ Below n0 W W'
theorem Kpw.t {n0 : Nat} {A B C : World} (h : Kpw n0 A B) (k : Kpw n0 B C) : Kpw n0 A C := ⟨h.1.trans k.1, h.2.trans k.2⟩
theorem TS.add {n0 M : Nat} {pv dv v' : Value} {ws ws' : List (List Int)} {W w1 : World} {tmp : Obj} (h : TS n0 M pv dv ws W) (hn : n0 < M) (own' : OwnsN 2 57 w1 n0 v' ws') (hg : (W.alloc tmp).grownBy w1 dv.ownBlock) :
    Boxed w1 M 53 dv ∧ TS n0 M pv v' ws' (w1.setCell ⟨M, 0, none⟩ v') ∧ Kpw n0 W (w1.setCell ⟨M, 0, none⟩ v') := by
  have hs : n0 ≤ W.heap.size := by have := h.bd.lt; omega
  obtain ⟨a1, a2, a3, a4, a5⟩ := Boxed.appended (show Boxed W M 53 dv from h.bd) (by decide) h.ow hs (by omega) own' hg
  have od := h.ow.alloc tmp
  refine ⟨a1, ⟨?_, a2, a3⟩, a4, a5⟩
  exact ((h.bp.alloc tmp).grown hg ((h.bp.alloc tmp).norowN (by decide) od)).away (p := ⟨M, 0, none⟩) (by show n0 ≠ M; omega) _

theorem OwnsN.isCells {N : Nat} {T : TypeId} {w : World} {base : Nat} {v : Value} {fs : List (List Int)} (h : OwnsN N T w base v fs) : ∀ j o, v.ownBlock = some j → w.heap[j]? = some o → o.isCells = true := by
  intro j o hj ho
  rcases h.2 with ⟨rfl, _⟩ | ⟨k, cap, cur, rfl, _, hh, _⟩
  · simp [Value.ownBlock] at hj
  · have e : k = j := by simpa [Value.ownBlock] using hj
    subst e
    rw [hh] at ho
    cases ho
    rfl
theorem sort_any (W : World) (base : Nat) (v : Value) (ps : List (List Int)) (h : OwnsN 2 57 W base v ps) (hn : ps.length ≤ 100000) :
    Calls Try.prog 24 #[v, .func (.func 25) #[] #[]] W fun e w' =>
      e = .returned (.tuple #[]) ∧ ∃ qs : List (List Int), qs.Perm ps ∧ qs.Pairwise (fun x y => ¬ ahdW y x) ∧ OwnsN 2 57 w' base v qs ∧ W.grownBy w' v.ownBlock := by
  rcases h.2 with ⟨rfl, h0⟩ | ⟨k, cap, cur, rfl, r⟩
  · refine (sort_nil 0 W).mono ?_
    rintro e w' ⟨rfl, k⟩
    have : ps = [] := List.length_eq_zero_iff.1 h0
    subst this
    exact ⟨rfl, [], .refl _, .nil, OwnsN.nil _ _ _ _, kgrown k⟩
  · refine (sortW_run W base k cap ps h hn).mono ?_
    rintro e w' ⟨rfl, qs, h1, h2, h3, h4⟩
    refine ⟨rfl, qs, h1, h2, ?_, h4⟩
    rw [h1.length_eq] at h3
    exact h3
theorem OwnsN.caps {N : Nat} {T : TypeId} {w : World} {base : Nat} {v : Value} {fs : List (List Int)} (h : OwnsN N T w base v fs) : ∃ a cap, v = .slice a fs.length cap ∧ fs.length ≤ cap ∧ cap ≤ maxLen ∧ (fs.length = 0 ∨ ∃ g, a = some ⟨g, 0, none⟩) := by
  rcases h.2 with ⟨rfl, hn⟩ | ⟨g, cap, cur, rfl, hg, hh, hn, hm, hs, ht⟩
  · exact ⟨none, 0, by rw [hn], by omega, Nat.zero_le _, .inl hn⟩
  · exact ⟨_, cap, rfl, hn, hm, .inr ⟨g, rfl⟩⟩

theorem wpIn_appendI {F : Fence} {n : Nat} {ops : Array Oper} {rest : List Oper} {o : Oper} {a : Act} {Q : Exit → Act → World → Prop} (hgd : o.guard = none) (s x : Operand)
    (ho : o.op = .call { callee := .builtin .append, args := #[s, x], argTypes := #[22, 22] })
    (base : Nat) (v : Value) (ps : List Int) (q : Int) (w : World) (g c : Nat) (T' : TypeId) (hs : a.eval s = v) (hown : Owns w base v ps) (hx : a.eval x = .slice (some ⟨g, 0, none⟩) 1 c) (hg : Blk w g #[.int .i64 q] T')
    (hlen : ps.length + 1 ≤ 100000) (hbase : base ≤ w.heap.size)
    (h : ∀ v' w', Owns w' base v' (ps ++ [q]) → w.grownBy w' v.ownBlock → wpListIn F n Try.prog ops Q rest (a.put o.dst v') w') : wpListIn F n Try.prog ops Q (o :: rest) a w := by
  obtain ⟨i0, hi, hz0, hz1, hz2⟩ := info_parts Try.infoInt
  refine wpListIn_append_own _ hgd s x 22 ho base 3 i0 _ 1 8 Try.underlying22 hi hz0 hz1 hz2 rfl (by decide) v _ _ hs hown ⟨g, 0, none⟩ 1 c [.int .i64 q] hx rfl ?_ ?_ ?_ ?_ hbase ?_
  · intro j u hu
    exact World.news_of_block hg j u hu
  · intro u hu
    have e : u = .int .i64 q := by simpa using hu
    subst e
    rfl
  · unfold maxLen; omega
  · omega
  · intro v' w' h1 h2 _
    refine h v' w' ?_ h2
    unfold Owns
    rw [List.length_append, List.map_append]
    exact h1
theorem Owns.isCells {w : World} {base : Nat} {v : Value} {zs : List Int} (h : Owns w base v zs) : ∀ j o, v.ownBlock = some j → w.heap[j]? = some o → o.isCells = true := by
  intro j o hj ho
  rcases h.2 with ⟨rfl, _⟩ | ⟨k, cap, cur, rfl, _, hh, _⟩
  · simp [Value.ownBlock] at hj
  · have e : k = j := by simpa [Value.ownBlock] using hj
    subst e
    rw [hh] at ho
    cases ho
    rfl
theorem Owns.ge {w : World} {base : Nat} {v : Value} {zs : List Int} (h : Owns w base v zs) : ∀ k, v.ownBlock = some k → base ≤ k := by
  intro k hk
  rcases h.2 with ⟨rfl, _⟩ | ⟨g, cap, cur, rfl, hg, _⟩
  · simp [Value.ownBlock] at hk
  · simp [Value.ownBlock] at hk; omega
theorem OwnsN.pastI {N : Nat} {T : TypeId} {w w' : World} {base : Nat} {u v : Value} {fs : List (List Int)} {zs : List Int} (h : OwnsN N T w base u fs) (hT : T ≠ 3) (hv : Owns w base v zs) (g : w.grownBy w' v.ownBlock) : OwnsN N T w' base u fs := by
  refine h.other g ?_
  rcases h.2 with ⟨rfl, _⟩ | ⟨k, cap, cur, rfl, _, hh, _⟩
  · exact .inl rfl
  · rcases hv.2 with ⟨rfl, _⟩ | ⟨k', cap', cur', rfl, _, hh', _⟩
    · exact .inr (by simp [Value.ownBlock])
    · refine .inr fun e => ?_
      have e : k = k' := by simpa [Value.ownBlock] using e
      subst e
      rw [hh] at hh'
      cases hh'
      exact hT rfl
theorem Owns.own' {w w' : World} {base : Nat} {u : Value} {zs : List Int} {row : Option Nat} (h : Owns w base u zs) (g : w.grownBy w' row) (hr : ∀ r, row = some r → ∃ o : Obj, w.heap[r]? = some o ∧ o.isCells = false) : Owns w' base u zs := by
  obtain ⟨h1, h2⟩ := h
  refine ⟨h1, ?_⟩
  rcases h2 with h2 | ⟨k, cap, cur, rfl, hk, hh, r⟩
  · exact .inl h2
  · exact .inr ⟨k, cap, cur, rfl, hk, (g.block k (heap_lt hh) (fun e => by obtain ⟨o, ho, hc⟩ := hr k e.symm; rw [hh] at ho; cases ho; cases hc)).trans hh, r⟩
theorem Owns.sl {w : World} {B : Nat} {v : Value} {zs : List Int} (h : Owns w B v zs) : ∃ a n cap, v = .slice a n cap ∧ Hid (n = zs.length) := by
  rcases h.2 with ⟨rfl, hn⟩ | ⟨g, cap, cur, rfl, _⟩
  · exact ⟨_, _, _, rfl, by unfold Hid; exact hn.symm⟩
  · exact ⟨_, _, _, rfl, rfl⟩
theorem ids_s {qs : List (List Int)} {k : Nat} (h : k < qs.length) : (qs.take (k + 1)).map (fun l => l.getD 0 0) = (qs.take k).map (fun l => l.getD 0 0) ++ [(qs.getD k []).getD 0 0] := by
  have e : qs.getD k [] = qs[k] := by rw [List.getD_eq_getElem?_getD, List.getElem?_eq_getElem h]; rfl
  rw [List.take_succ_eq_append_getElem h, List.map_append, e]
  rfl

set_option maxRecDepth 100000 in
set_option maxHeartbeats 4000000 in
theorem top_bad (m : Int) (fv pv : Value) (ps : List Int) (fs : List (List Int)) (w : World) (hF : ReadsF w fv fs) (hP : Reads w pv ps) (h : topE fs ps m ≠ 0) :
    Calls Try.prog 6 #[fv, pv, .int .i64 m] w fun e w' => e = .returned (.tuple #[.slice none 0 0, .int .i64 (topE fs ps m)]) ∧ Kpt w w' := by
  have CA := Lib.hid (fun w' (k : Kpt w w') => checkTop_run m fv pv ps fs w' (hF.kpt k) (hP.kpt k))
  obtain ⟨a2, cap2, rfl, -⟩ := hF
  obtain ⟨a3, cap3, rfl, -⟩ := hP
  have KA : Hid (Kpt w (w.alloc (.cells #[.slice a3 ps.length cap3] 22))) := (Kpt.refl w).alloc _
  have z : (topE fs ps m != 0) = true := bne_iff_ne.2 h
  clear h
  generalize topE fs ps m = E at *
  generalize fs.length = n3 at *
  generalize ps.length = n2 at *
  go_enter Try.func6, Try.ntmps6
  go_wp2_with (go_at_call 22; (with_reducible refine (CA.out _ KA.out).mono ?_); rintro e w1 ⟨rfl, k1⟩; have K1 := Lib.hid (ktr KA.out k1); clear k1)
  go_ret2
  exact ⟨rfl, K1.out⟩

set_option maxRecDepth 100000 in
set_option maxHeartbeats 4000000 in
theorem top_ok (m : Int) (a a3 : Option Addr) (cap cap3 : Nat) (ps : List Int) (fs : List (List Int)) (w : World) (hF : ReadsF w (.slice a fs.length cap) fs) (hP : Reads w (.slice a3 ps.length cap3) ps) (h : topE fs ps m = 0) :
    Calls Try.prog 6 #[.slice a fs.length cap, .slice a3 ps.length cap3, .int .i64 m] w fun e w' => (∃ (v : Value) (qs : List (List Int)), qs.Perm (wortT ps fs (opn fs fs.length)) ∧ qs.Pairwise (fun x y => ¬ ahdW y x) ∧ e = .returned (.tuple #[v, .int .i64 0]) ∧ Owns w' w.heap.size v ((qs.take m.toNat).map fun l => l.getD 0 0)) ∧ Kpt w w' := by
  have CA := Lib.hid (fun w' (k : Kpt w w') => checkTop_run m _ _ ps fs w' (hF.kpt k) (hP.kpt k))
  rw [h] at CA
  obtain ⟨hc1, hc2, hm0, hm1⟩ := topE_0 h
  obtain ⟨h60, hfl⟩ := checksE_0 hc1
  obtain ⟨h20, hpr⟩ := prsE_0 hc2
  have HR := Lib.hid hF
  have HPR := Lib.hid hP
  have HFL := Lib.hid hfl
  have HPB := Lib.hid hpr
  have H20 := Lib.hid h20
  obtain ⟨a', cap', e, hm, -, hcl⟩ := hF
  injection e with e1 _ e3
  subst e1 e3
  unfold maxLen at hm
  clear hcl h hfl hpr hP hc1 hc2 h20
  have KA : Hid (Kpt w (w.alloc (.cells #[.slice a3 ps.length cap3] 22))) := (Kpt.refl w).alloc _
  have BP : Hid (Blk (w.alloc (.cells #[.slice a3 ps.length cap3] 22)) w.heap.size #[.slice a3 ps.length cap3] 22) := Blk.made _ _ _
  refine (callsIn_wide (n := 3)).1 ?_
  refine callsIn_of_wp_marks Try.func6 rfl trivial ?_ rfl
  simp only [Try.ntmps6, List.size_toArray, List.length_cons, List.length_nil, Nat.reduceAdd, Nat.reduceSub, Array.replicate_succ, Array.replicate_zero, List.push_toArray, List.append_toArray, List.nil_append, List.cons_append]
  gi_wp2_with (first
    | (refine ⟨trivial, ?_⟩; gi_at_call 22; (with_reducible refine (callsIn_wide.2 (CA.out _ KA.out)).mono ?_); rintro e w1 ⟨rfl, k1⟩; have K1 := Lib.hid (ktr KA.out k1); have B1 := Lib.hid (BP.out.kpt k1); have s1 : w.heap.size + 1 ≤ w1.heap.size := (by have := Below.size k1; simp at this; omega); clear k1)
    | (refine ⟨trivial, ?_⟩; gi_at_call 18; (with_reducible refine (callsIn_wide.2 (open_it _ _ _ _)).mono ?_); rintro e w' ⟨rfl, rfl⟩))
  obtain ⟨w3, hw3⟩ : ∃ w3, ((w1.alloc (.cells #[.slice none 0 0] 53)).alloc (.cells #[.slice a fs.length cap] 25)) = w3 := ⟨_, rfl⟩
  have k13 : Kpt w1 w3 := by rw [← hw3]; exact ((Kpt.refl w1).alloc _).alloc _
  have sz : w3.heap.size = w1.heap.size + 2 := by rw [← hw3]; simp
  have k3 : Below w.heap.size w w3 := ktr K1.out k13
  have bX : Blk w3 w1.heap.size #[.slice none 0 0] 53 := by rw [← hw3]; exact (Blk.made w1 _ _).alloc _
  have bF : Blk w3 (w1.heap.size + 1) #[.slice a fs.length cap] 25 := by
    rw [← hw3]
    have := Blk.made (w1.alloc (.cells #[.slice none 0 0] 53)) #[.slice a fs.length cap] 25
    rwa [World.size_alloc] at this
  have ST := open_stops 2 (by omega) w.heap.size w w3 rfl _ fs (w1.heap.size + 1) HR.out k3 (bF.cell 0)
  have S3 : TS w.heap.size w1.heap.size (.slice a3 ps.length cap3) (.slice none 0 0) [] w3 := ⟨B1.out.kpt k13, bX, OwnsN.nil _ _ _ _⟩
  rw [hw3]
  clear hw3 KA BP B1 K1 k13 bX bF
  refine wpIn_rangeFunc_ownH rfl (by omega) (gf := 42) (lb := #[.pointer (some ⟨w1.heap.size + 1, 0, none⟩)]) rfl trivial (enters_of Try.func42 (by kernel_rfl) rfl)
    ST (fun h k => h.trans k) (fun W l o o' hl h h1 h2 => belowK_b (w := w) (n₀ := w.heap.size) (Nat.le_refl _) W l o o' (by omega) h h1 h2) (Below.refl _ _) (fun _ => rfl)
    (fun pre W' => (∃ dv, TS w.heap.size w1.heap.size (.slice a3 ps.length cap3) dv (wortT ps fs pre) W') ∧ Below w.heap.size w W') (fun _ _ _ => False)
    (OwnFrom.and (Own.from (fun s A B row hs hg hr => by obtain ⟨dv, hs⟩ := hs; exact ⟨dv, hs.own hg hr⟩) _) (ownFrom_below (Nat.le_refl _) (by omega)))
    (fun _ _ _ _ _ hs _ _ => hs)
    ⟨⟨_, S3⟩, k3⟩
    (fun x a' W' => ∃ g, w1.heap.size < g ∧ a' = { tmps := #[.slice a fs.length cap, .slice a3 ps.length cap3, .int .i64 m, undef, .pointer (some ⟨w.heap.size, 0, none⟩), undef, .slice none 0 0, .int .i64 0, .int .i64 0, .pointer (some ⟨w1.heap.size, 0, none⟩), .pointer (some ⟨g, 0, none⟩), .int .i64 (openL (fs.getD x.1 [])), undef, undef, undef, undef, undef, undef, .slice a fs.length cap, .slice a3 ps.length cap3, .int .i64 m, .int .i64 0, .int .i64 0, .bool false, undef, .slice a fs.length cap, .func (.func 42) #[] #[.pointer (some ⟨w1.heap.size + 1, 0, none⟩)], .agg (flC (fs.getD x.1 [])), .int .i64 (openL (fs.getD x.1 [])), undef, undef, undef, undef, undef, undef, undef, undef, undef, undef, undef, undef, undef, undef, undef, undef, undef, undef, undef, undef, undef, undef, undef, undef, undef, undef, undef, undef, undef, undef, undef, undef, undef, undef, undef, undef, undef, undef, undef], defers := [] } ∧ Blk W' g (flC (fs.getD x.1 [])) 38)
    (fun x a' => Own.from (fun s A B row hs hg hr => by obtain ⟨g, h1, h2, h3⟩ := hs; exact ⟨g, h1, h2, h3.own hg hr⟩) _)
    ?assign ?body ?done ?stop
  case assign =>
    clear ST S3 k3
    rintro l pre x W' K ⟨⟨dv, hS⟩, hB⟩ hK
    have ZH : Hid (Blk (W'.alloc (.cells #[.int .i64 0, .int .i64 0, .int .i64 0, .int .i64 0, .int .i64 0, .int .i64 0, .int .i64 0, .int .i64 0, .int .i64 0, .int .i64 0] 38)) W'.heap.size #[.int .i64 0, .int .i64 0, .int .i64 0, .int .i64 0, .int .i64 0, .int .i64 0, .int .i64 0, .int .i64 0, .int .i64 0, .int .i64 0] 38) := Blk.made _ _ _
    have KZ : Hid (Kpt W' (W'.alloc (.cells #[.int .i64 0, .int .i64 0, .int .i64 0, .int .i64 0, .int .i64 0, .int .i64 0, .int .i64 0, .int .i64 0, .int .i64 0, .int .i64 0] 38))) := (Kpt.refl W').alloc _
    have hq := hS.bd.lt
    have hc10 : (flC (fs.getD x.1 [])).size = 10 := rfl
    have hone : (flC (fs.getD x.1 [])).all (·.oneCell') = true := by simp [flC, Value.oneCell']
    generalize openL (fs.getD x.1 []) = U at hK ⊢
    generalize flC (fs.getD x.1 []) = FC at hK hc10 hone ⊢
    gi_wp2_with (refine wpIn_storeF rfl (.tmp 10) (.tmp 27) rfl W'.heap.size _ _ rfl rfl ZH.out rfl hc10 hone ?_; intro w9 r9 k9 o9; have R9 := Lib.hid r9; have K9 : Hid (Kpt W' w9) := Lib.hid (k9 _ _ KZ.out (Nat.le_refl _)); clear r9 k9 o9)
    exact hK _ _ ((kothers K9.out).from _) (Below.mono K9.out hB.size) ⟨⟨dv, hS.kpt K9.out⟩, hB.trans (Below.mono K9.out hB.size)⟩ ⟨_, hq, rfl, R9.out⟩
  case body =>
    clear ST S3 k3
    rintro l pre x a' W' hl - ⟨⟨dv, hS⟩, hB⟩ ⟨g, hq, rfl, h7⟩ hlen
    have fb := fail_bd (HFL.out _ (getF_mem x.2))
    have hU := openL_bd (fs.getD x.1 [])
    have hlt : ((fs.getD x.1 []).getD 4 0 - 1).toNat < 20 := by omega
    have hpb := HPB.out _ hlt
    have CO := Lib.hid (fun w => cost_priced hU hpb w)
    have c0 : W'.cell? ⟨g, 0, none⟩ = some (.int .i64 ((fs.getD x.1 []).getD 0 0)) := h7.cell 0
    have c4 : W'.cell? ⟨g, 4, none⟩ = some (.int .i64 ((fs.getD x.1 []).getD 4 0)) := h7.cell 4
    have hPr := HPR.out.kpt (show Kpt w W' from hB)
    obtain ⟨a3', cap3', e3, -, hpc⟩ := hPr
    injection e3 with e31 _ e33
    subst e31 e33
    obtain ⟨gp, offp, rfl, cp⟩ := hpc _ (by rw [H20.out]; exact hlt)
    have HI : Hid (∀ W2 dv', TS w.heap.size w1.heap.size (.slice (some ⟨gp, offp, none⟩) ps.length cap3) dv' (wortT ps fs pre ++ [wortL ps (fs.getD x.1 [])]) W2 → Kpw w.heap.size W' W2 → KeepsFrom w3.heap.size W' W2 ∧ Below w.heap.size W' W2 ∧ ((∃ dv, TS w.heap.size w1.heap.size (.slice (some ⟨gp, offp, none⟩) ps.length cap3) dv (wortT ps fs (pre ++ [x])) W2) ∧ Below w.heap.size w W2)) := by
      intro W2 dv' hs ht
      rw [wortT_s]
      exact ⟨ht.1.from _, ht.2, ⟨dv', hs⟩, hB.trans ht.2⟩
    unfold wortL at HI
    obtain ⟨k4, e4⟩ : ∃ k : Nat, (fs.getD x.1 []).getD 4 0 = (k : Int) + 1 := ⟨((fs.getD x.1 []).getD 4 0 - 1).toNat, by omega⟩
    have e5 : ((fs.getD x.1 []).getD 4 0 - 1).toNat = k4 := by omega
    rw [e5] at HI CO hlt hpb cp
    rw [e4] at c4
    have LW : Hid ((wortT ps fs pre).length ≤ 60) := by unfold Hid wortT; rw [List.length_map]; omega
    have h5 : (k4 : Int) + 1 - 1 = k4 := by omega
    have i0 : (0 : Int) ≤ (k4 : Int) := by omega
    have i1 : (k4 : Int) < (ps.length : Int) := by have := H20.out; omega
    have b4 : W'.cell? ⟨w.heap.size, 0, none⟩ = some (.slice (some ⟨gp, offp, none⟩) ps.length cap3) := hS.bp.cell 0
    have HS := Lib.hid hS
    have HG := Lib.hid h7
    have HB := Lib.hid hB
    clear fb hU hpb e4 e5 hS h7 hB
    generalize (fs.getD x.1 []).getD 0 0 = I at *
    generalize openL (fs.getD x.1 []) = U at *
    generalize flC (fs.getD x.1 []) = FC at *
    generalize ps.getD k4 0 = PR at *
    generalize U * PR / 10000 = V at *
    generalize cosR U PR = R at *
    generalize wortT ps fs pre = ws at *
    gi_wp2_with (first
      | (refine ⟨trivial, ?_⟩; gi_at_call 23; refine (CallsIn.inRound l (callsIn_wide.2 (CO.out _))).mono ?_; rintro e w4 ⟨rfl, k4'⟩; have K4 := Lib.hid k4'; have S4 := Lib.hid (HS.out.kpt k4'); have b9 : World.cell? w4 ⟨w1.heap.size, 0, none⟩ = some dv := S4.out.bd.cell 0; have d0 : World.cell? w4 ⟨g, 0, none⟩ = some (.int .i64 I) := k4'.cell c0; clear k4')
      | (gi_at_builtin; refine wpIn_appendW rfl _ _ rfl w.heap.size dv _ [I, V] _ w4.heap.size 1 _ _ rfl (S4.out.ow.alloc _) rfl (Blk.made _ _ _) rfl (by have := LW.out; omega) (by have := S4.out.bd.lt; simp; omega) ?_; intro v5 w5 o5 g5; obtain ⟨a5, n5, p5, rfl, -⟩ := OwnsN.form o5; obtain ⟨d5, z5, t5⟩ := S4.out.add (by omega) o5 g5; have S5 := Lib.hid z5; have T5 := Lib.hid t5; have hc5 := d5.cell; have hf5 := d5.frozen; clear z5 t5 o5 g5))
    exact HI.out _ _ S5.out (Kpw.t ⟨kothers K4.out, K4.out.mono HB.out.size⟩ T5.out)
  case done =>
    clear ST S3 k3
    rintro D ys W' hD rfl ⟨⟨dv, hS⟩, hB⟩ hK
    have b9 : W'.cell? ⟨w1.heap.size, 0, none⟩ = some dv := hS.bd.cell 0
    have hl : (wortT ps fs (opn fs fs.length)).length ≤ 60 := by unfold wortT; rw [List.length_map]; have := opn_len fs fs.length; omega
    have SO := Lib.hid (sort_any W' w.heap.size dv _ hS.ow (by omega))
    obtain ⟨av, cv, rfl, hcap, hcm, -⟩ := hS.ow.caps
    have HS := Lib.hid hS
    have HB := Lib.hid hB
    have HK := Lib.hid hK
    clear hS hB hK
    have HL := Lib.hid hl
    generalize hws : wortT ps fs (opn fs fs.length) = ws at *
    have HWS := Lib.hid hws
    clear hws
    obtain ⟨mm, hmm, hm1, hm2⟩ : ∃ mm : Nat, min m (ws.length : Int) = (mm : Int) ∧ mm ≤ ws.length ∧ (mm : Int) ≤ m := ⟨(min m (ws.length : Int)).toNat, by omega, by omega, by omega⟩
    gi_wp2_with (refine ⟨trivial, ?_⟩; gi_at_call 24; (with_reducible refine (callsIn_wide.2 SO.out).mono ?_); rintro e w5 ⟨rfl, qs, p5, q5, o5, g5⟩; have P5 := Lib.hid p5; have Q5 := Lib.hid q5; have O5 := Lib.hid o5; have b19 : World.cell? w5 ⟨w1.heap.size, 0, none⟩ = some (.slice av ws.length cv) := (HS.out.bd.grown g5 (HS.out.bd.norowN (by decide) HS.out.ow)).cell 0; have L5 := Lib.hid p5.length_eq; have K5 : Hid (w5.heap[D]? = some (.deferred (some []))) := Lib.hid ((KeepsOthers.of_grownBy g5 HS.out.ow.isCells).same D _ HK.out rfl); have B5 := Lib.hid (Below.grown HB.out g5 HB.out.size HS.out.ow.ge); clear p5 q5 o5 g5)
    have HI := Lib.hid (fun k (h : k < qs.length) => ids_s h)
    have hl := HL.out
    have I0 : Hid (Owns w5 w.heap.size (.slice none 0 0) ((qs.take 0).map fun l => l.getD 0 0)) := ⟨rfl, .inl ⟨rfl, rfl⟩⟩
    have L6 : Hid (qs.length ≤ 60) := by unfold Hid; have := L5.out; omega
    have LM : Hid (mm ≤ qs.length) := by unfold Hid; have := L5.out; omega
    have HMM : Hid ((mm : Int) ≤ m) := hm2
    have HEQ : Hid (qs.take mm = qs.take m.toNat) := by
      unfold Hid
      by_cases e : (mm : Int) = m
      · rw [show m.toNat = mm by omega]
      · have : mm = ws.length := by omega
        rw [List.take_of_length_le (by have := L5.out; omega), List.take_of_length_le (by have := L5.out; omega)]
    clear SO HS HB HK hl b9 b19 hmm hm2 hcap hcm HL hm1 HR HPR HPB H20 HFL CA
    gi_loopw [15, 57] (fun iv ii wr => ∃ k : Nat, k ≤ mm ∧ ii = .int .i64 (k : Int) ∧ Hid (Owns wr w.heap.size iv ((qs.take k).map fun l => l.getD 0 0)) ∧ Hid (OwnsN 2 57 wr w.heap.size (.slice av ws.length cv) qs) ∧ Hid (Below w.heap.size w wr) ∧ Hid (wr.heap[D]? = some (.deferred (some [])))) (fun iv ii _ => mm - (intOf ii).toNat)
    case atStart => exact ⟨0, Nat.zero_le _, rfl, I0.out, O5.out, B5.out, K5.out⟩
    case round =>
      obtain ⟨k, hk, rfl, HO, HW, HB, HK⟩ := hrel
      obtain ⟨ai, ni, ci, rfl, HN⟩ := HO.out.sl
      by_cases hlt : k < mm
      · obtain ⟨a', cap', e, -, hcl⟩ := HW.out.cells
        injection e with e1 e2 e3
        subst e1 e3
        obtain ⟨gw, rfl, hcw⟩ := hcl k (by have := LM.out; omega)
        have c0 : wr.cell? ⟨gw, k * 2, none⟩ = _ := hcw 0 (by omega)
        have c1 : wr.cell? ⟨gw, k * 2 + 1, none⟩ = _ := hcw 1 (by omega)
        have hi := HI.out k (by have := LM.out; omega)
        have HI2 := Lib.hid hi
        have LI : Hid (((qs.take k).map fun l => l.getD 0 0).length ≤ 60) := by unfold Hid; rw [List.length_map, List.length_take]; have := L6.out; omega
        have i0 : (0 : Int) ≤ (k : Int) := by omega
        have i1 : (k : Int) < (mm : Int) := by omega
        have y1 : decide ((k : Int) < (mm : Int)) = true := decide_eq_true i1
        clear hcl hcw hi e2
        generalize (qs.getD k []).getD 0 0 = I at *
        generalize (qs.getD k []).getD 1 0 = V at *
        generalize (qs.take k).map (fun l => l.getD 0 0) = zs at *
        have BI : Hid (Blk ((wr.alloc (.cells #[.int .i64 I, .int .i64 V] 57)).alloc (.cells #[.int .i64 I] 3)) (wr.heap.size + 1) #[.int .i64 I] 3) := Blk.made' (by simp)
        have KI : Hid (Kpt wr ((wr.alloc (.cells #[.int .i64 I, .int .i64 V] 57)).alloc (.cells #[.int .i64 I] 3))) := ((Kpt.refl wr).alloc _).alloc _
        have OI : Hid (Owns ((wr.alloc (.cells #[.int .i64 I, .int .i64 V] 57)).alloc (.cells #[.int .i64 I] 3)) w.heap.size (.slice ai ni ci) zs) := (HO.out.alloc _).alloc _
        have SI : Hid (w.heap.size ≤ ((wr.alloc (.cells #[.int .i64 I, .int .i64 V] 57)).alloc (.cells #[.int .i64 I] 3)).heap.size) := Nat.le_trans HB.out.size KI.out.size
        have LJ : Hid (zs.length + 1 ≤ 100000) := by unfold Hid; have := LI.out; omega
        gi_wp2_with (gi_at_builtin; refine wpIn_appendI rfl _ _ rfl w.heap.size (.slice ai ni ci) zs I _ (wr.heap.size + 1) 1 _ rfl OI.out rfl BI.out LJ.out SI.out ?_; intro v6 w6 o6 g6; obtain ⟨a6, n6, p6, rfl, -⟩ := Owns.sl o6; have O6 := Lib.hid o6; have G6 := Lib.hid g6; clear o6 g6)
        have e1 : wrap64 ((k : Int) + 1) = ((k + 1 : Nat) : Int) := by have := LM.out; have := L6.out; unfold wrap64; omega
        rw [e1]
        refine ⟨⟨k + 1, by omega, rfl, ?_, (HW.out.kpt KI.out).pastI (by decide) OI.out G6.out, Below.grown (HB.out.trans (KI.out.mono HB.out.size)) G6.out SI.out OI.out.ge, (KeepsOthers.of_grownBy G6.out OI.out.isCells).same D _ ((kothers KI.out).same D _ HK.out rfl) rfl⟩, ?_⟩
        · unfold Hid; rw [HI2.out]; exact O6.out
        · simp [intOf]; omega
      · have hkl : k = mm := by omega
        have y1 : decide ((k : Int) < (mm : Int)) = false := decide_eq_false (by omega)
        have HF : Hid (Owns (wr.putObj D (.deferred none)) w.heap.size (.slice ai ni ci) ((qs.take m.toNat).map fun l => l.getD 0 0)) := by
          have h := HO.out
          rw [hkl, HEQ.out] at h
          exact h.own' (grownBy_putObj' wr D (.deferred none)) (fun r e => by cases e; exact ⟨_, HK.out, rfl⟩)
        have HBE : Hid (Below w.heap.size w (wr.putObj D (.deferred none))) := HB.out.trans (belowK_b (w := w) (Nat.le_refl _) wr D (.deferred (some [])) (.deferred none) (by omega) HK.out rfl rfl)
        gi_wp2
        refine ⟨by simp, .inl ⟨_, _, rfl, run_takeDeferred (w := wr) HK.out, ?_⟩⟩
        exact ⟨_, results_tmp2 Try.results6 _ _ _, ⟨_, qs, by rw [HWS.out]; exact P5.out, Q5.out, rfl, HF.out⟩, HBE.out⟩
  case stop =>
    rintro D c pre W' _ _ h _
    exact h.elim

end Go.Proofs.Ytagmgpdgiphhbaa
