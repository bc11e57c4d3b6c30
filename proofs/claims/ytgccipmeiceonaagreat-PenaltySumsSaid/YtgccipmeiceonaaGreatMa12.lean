/-
  Merged: BookF, BookG, BookH, BookI.
-/
import Derived.Test.YtgccipmeiceonaaGreatMa10
import Derived.Shelf.SlSortCmp.WholeK
import Derived.Test.YtgccipmeiceonaaGreatMa11
-- BookF
namespace Go.Proofs.YtgccipmeiceonaaGreat
open Go.RowKit Go.Sort Go.Lib
set_option linter.unusedVariables false

theorem flatK_eq (ps : List (Int × Int × Int)) : flatK encP 3 ps.toArray = (flatP ps).toArray := by
  apply Array.ext
  · simp [flatP_len]
  · intro t h1 h2
    have ht : t < ps.length * 3 := by simpa using h1
    apply Option.some.inj
    rw [← Array.getElem?_eq_getElem, ← Array.getElem?_eq_getElem]
    obtain ⟨q, r, hr, rfl⟩ : ∃ q r, r < 3 ∧ t = q * 3 + r := ⟨t / 3, t % 3, by omega, by omega⟩
    have hq : q < ps.length := by omega
    have e := get_flatK encP 3 ps.toArray (q * 3 + r) (by simpa using ht)
    rw [show (q * 3 + r) / 3 = q by omega, show (q * 3 + r) % 3 = r by omega] at e
    rw [Array.getElem?_eq_getElem h1, ← getElem!_pos (flatK encP 3 ps.toArray) (q * 3 + r) h1, e]
    obtain ⟨e0, e1, e2⟩ := flatP_at ps q hq
    have eg : ps.toArray[q]! = ps.getD q default := by
      rw [getElem!_pos ps.toArray q (by simpa using hq), List.getD_eq_getElem?_getD, List.getElem?_eq_getElem hq]; simp
    rw [eg, List.getElem?_toArray]
    rcases (show r = 0 ∨ r = 1 ∨ r = 2 by omega) with rfl | rfl | rfl
    · rw [Nat.add_zero, e0]; rfl
    · rw [e1]; rfl
    · rw [e2]; rfl
theorem heap_put {w : World} {g n : Nat} {os : Array Obj} {cur : Array Value} {e : TypeId} {fr : Nat × Nat} (d : Array Value) (hb : w.heap[g]? = some (.cells cur e fr)) :
    (Go.Sort.grow (putRow id (Sort.ahead w n) g 0 d) os).heap[g]? = some (.cells (putCells id 0 d cur) e fr) := by
  have hg : g < w.heap.size := (Array.getElem?_eq_some_iff.1 hb).1
  rw [heap_grow_old _ _ (by simpa using hg)]
  simp [putRow, mapBlock, Sort.ahead, Array.getElem?_modify, hb, onCells]
theorem grown_put {w : World} {g n : Nat} {os : Array Obj} (d : Array Value) : w.grownBy (Go.Sort.grow (putRow id (Sort.ahead w n) g 0 d) os) (some g) := by
  refine ⟨rfl, rfl, rfl, by simp, fun k hk hne => ?_⟩
  rw [heap_grow_old _ _ (by simpa using hk)]
  have : g ≠ k := fun e => hne (by rw [e])
  simp [putRow, mapBlock, Sort.ahead, Array.getElem?_modify, this]
theorem take_put (cur : Array Value) (xs : List Value) (h : xs.length ≤ cur.size) : (putCells id 0 xs.toArray cur).toList.take xs.length = xs := by
  apply List.ext_getElem?
  intro j
  by_cases hj : j < xs.length
  · rw [List.getElem?_take_of_lt hj, Array.getElem?_toList]
    simp [putCells, hj, show j < cur.size by omega]
  · rw [List.getElem?_take_eq_none (by omega), List.getElem?_eq_none (by omega)]

theorem cmp_lt (a b : Int) : decide (Lib.compareInt a b < 0) = decide (a < b) := by
  unfold Lib.compareInt
  by_cases h1 : a < b
  · simp [h1]
  · by_cases h2 : b < a <;> simp [h1, h2]
theorem swo_key : SWO (ltOf fun x y : Int × Int × Int => Lib.compareInt (keyP x) (keyP y)) := by
  have e : ∀ x y : Int × Int × Int, ltOf (fun x y => Lib.compareInt (keyP x) (keyP y)) x y = decide (keyP x < keyP y) := fun x y => by
    exact cmp_lt _ _
  refine ⟨fun x => ?_, fun x y z h1 h2 => ?_, fun x y z h1 h2 => ?_⟩
  · rw [e]; simp
  · rw [e] at *; simp at *; omega
  · rw [e] at *; simp at *; omega

theorem holds_own {w : World} {g : Nat} {cur : Array Value} {e : TypeId} {ps : List (Int × Int × Int)} (hb : w.heap[g]? = some (.cells cur e (0, 0))) (ht : cur.toList.take (ps.length * 3) = flatP ps) : HoldsK encP 3 w g 0 ps.toArray := by
  unfold HoldsK
  rw [flatK_eq]
  intro j hj
  have hj' : j < ps.length * 3 := by rw [← flatP_len]; simpa using hj
  refine ⟨?_, by simp [World.frozen?, hb]⟩
  have h1 : (cur.toList.take (ps.length * 3))[j]? = (flatP ps)[j]? := by rw [ht]
  rw [List.getElem?_take_of_lt hj'] at h1
  rw [Nat.zero_add, cell_of_row w g j cur e (0, 0) hb, ← Array.getElem?_toList, h1]
  rw [getElem!_pos (flatP ps).toArray j hj]
  simp

theorem eg48 : ∀ args w, (callFunc 80 args).run Tryz.prog w = .ok (.enter 80 args) w := enters_of Tryz.func80 (by kernel_rfl) rfl

/-- slices.SortFunc at postings of the call's own: they are put in the order of their keys -/
theorem sort_run (w : World) (base blk cap : Nat) (ps : List (Int × Int × Int)) (h : OwnsP w base (.slice (some ⟨blk, 0, none⟩) ps.length cap) ps) (hn : ps.length ≤ 100000) :
    Calls Tryz.prog 79 #[.slice (some ⟨blk, 0, none⟩) ps.length cap, .func (.func 80) #[] #[]] w fun e w' =>
      e = .returned (.tuple #[]) ∧ ∃ qs : List (Int × Int × Int), qs.Perm ps ∧ qs.Pairwise (fun x y => keyP x ≤ keyP y) ∧ OwnsP w' base (.slice (some ⟨blk, 0, none⟩) qs.length cap) qs ∧ w.grownBy w' (some blk) := by
  rcases h.2 with ⟨e, _⟩ | ⟨k, cap', cur, e, hk, hh, hc, hm, hs, ht⟩
  · cases e
  · injection e with e1 e2 e3
    injection e1 with e1
    injection e1 with e1 _ _
    subst e1; subst e3
    have hlt : blk < w.heap.size := (Array.getElem?_eq_some_iff.1 hh).1
    have aE : ∀ w, (isAgg 49).run Tryz.prog w = .ok true w := fun w => by kernel_rfl
    have zE : ∀ w, (Go.sizeOf 49).run Tryz.prog w = .ok 3 w := fun w => by kernel_rfl
    have hcon := AnyQ.slices_SortFunc Tryz.sortP 3 aE zE encP (fun _ => rfl) (fun x v hv => by simp [encP] at hv; rcases hv with rfl | rfl | rfl <;> rfl) (fun x y => Lib.compareInt (keyP x) (keyP y)) swo_key 80 #[] blk 0 cap ps.toArray w eg48 (fun _ _ _ _ x y => closure_run x y _) (holds_own hh ht) hlt (by simp; omega)
    refine hcon.mono ?_
    rintro e w' ⟨rfl, d', n, os, ⟨hsz, -, hp⟩, hso, rfl⟩
    have hl : d'.size = ps.length := by simpa using hsz
    refine ⟨rfl, d'.toList, ?_, ?_, ?_, ?_⟩
    · have e1 : (d'.extract 0 ps.toArray.size).toList = d'.toList := by simp [← hl]
      have e2 : (ps.toArray.extract 0 ps.toArray.size).toList = ps := by simp
      rw [e1, e2] at hp
      exact hp
    · rw [List.pairwise_iff_getElem]
      intro i j hi hj hij
      have hi' : i < d'.size := by simpa using hi
      have hj' : j < d'.size := by simpa using hj
      have := hso i j (Nat.zero_le _) hij (by simp; omega)
      rw [getElem!_pos d' i hi', getElem!_pos d' j hj'] at this
      unfold ltOf Lib.compareInt at this
      simp only [decide_eq_false_iff_not] at this
      simp only [Array.getElem_toList]
      refine Int.not_lt.1 fun q => this ?_
      rw [if_pos q]
      decide
    · refine ⟨flatP_len _, .inr ⟨blk, cap, putCells id 0 (flatP d'.toList).toArray cur, rfl, hk, ?_, by simpa [hl] using hc, hm, by simp [putCells, hs], ?_⟩⟩
      · have := heap_put (n := n) (os := os) (flatP d'.toList).toArray hh
        rw [← flatK_eq] at this ⊢
        exact this
      · have := take_put cur (flatP d'.toList) (by rw [flatP_len, hs]; simp [hl]; omega)
        rw [flatP_len] at this
        exact this
    · have := grown_put (w := w) (g := blk) (n := n) (os := os) (flatK encP 3 d')
      exact this

end Go.Proofs.YtgccipmeiceonaaGreat

-- BookG
namespace Go.Proofs.YtgccipmeiceonaaGreat
open Go.RowKit
set_option linter.unusedVariables false

theorem own_shape {w : World} {base : Nat} {v : Value} {ps : List (Int × Int × Int)} (h : OwnsP w base v ps) (hn : v = .slice none 0 0 → False) : ∃ blk cap, v = .slice (some ⟨blk, 0, none⟩) ps.length cap := by
  rcases h.2 with ⟨e, _⟩ | ⟨k, cap, cur, e, _⟩
  · exact absurd e hn
  · exact ⟨k, cap, e⟩

set_option maxRecDepth 100000 in
set_option maxHeartbeats 2000000 in
theorem concat2 (W0 : World) (b : Nat) (a1 a2 : Option Addr) (c1 c2 : Nat) (ps qs : List (Int × Int × Int)) (hc0 : W0.cell? ⟨b, 0, none⟩ = some (.slice a1 ps.length c1)) (hc1 : W0.cell? ⟨b, 1, none⟩ = some (.slice a2 qs.length c2))
    (R1 : ReadsP W0 (.slice a1 ps.length c1) ps) (R2 : ReadsP W0 (.slice a2 qs.length c2) qs) (h0 : 0 < ps.length + qs.length) (hm : ps.length + qs.length ≤ 100000) :
    Calls Tryz.prog 78 #[.slice (some ⟨b, 0, none⟩) 2 2] W0 fun e w' => (∃ v, e = .returned v ∧ OwnsP w' W0.heap.size v (ps ++ qs)) ∧ Kpt W0 w' := by
  have HR1 := Lib.hid R1; have HR2 := Lib.hid R2; clear R1 R2
  have HG := Lib.hid (fun w => grow_new (ps.length + qs.length) w h0 hm)
  have HP := Lib.hid (show ((ps.length + qs.length : Nat) : Int) = (ps.length : Int) + (qs.length : Int) by omega)
  unfold Hid at HG
  rw [HP.out] at HG
  have HG' := Lib.hid HG; clear HG
  go_enter Tryz.func78, Tryz.ntmps78
  go_wp2
  go_loop [3, 5, 11] (fun s x i => (i = .int .i64 0 ∧ s = .int .i64 0) ∨ (i = .int .i64 1 ∧ s = .int .i64 ps.length) ∨ (i = .int .i64 2 ∧ s = .int .i64 ((ps.length : Int) + (qs.length : Int)))) (fun _ _ i => 2 - (intOf i).toNat)
  case atStart => exact .inl ⟨rfl, rfl⟩
  case round =>
    rcases hrel with ⟨rfl, rfl⟩ | ⟨rfl, rfl⟩ | ⟨rfl, rfl⟩
    · go_wp2
      go_round
      case rel => exact .inr (.inl ⟨rfl, by simp⟩)
      case measure => simp [intOf]
    · go_wp2
      go_round
      case rel => exact .inr (.inr ⟨rfl, rfl⟩)
      case measure => simp [intOf]
    · go_wp2_with (go_at_call 122; (with_reducible refine (HG'.out _).mono ?_); rintro e w1 ⟨⟨G, rfl, ho⟩, g1⟩; have HO := Lib.hid ho; have G1 := Lib.hid g1; clear ho g1)
      have d0 := G1.out.cell (cell_in hc0) hc0
      have d1 := G1.out.cell (cell_in hc1) hc1
      go_loopw [6, 8, 27] (fun v x i wr => (i = .int .i64 0 ∧ Hid (OwnsP wr W0.heap.size v []) ∧ wr.cell? ⟨b, 0, none⟩ = some (.slice a1 ps.length c1) ∧ wr.cell? ⟨b, 1, none⟩ = some (.slice a2 qs.length c2) ∧ Hid (Kpt W0 wr)) ∨ (i = .int .i64 1 ∧ Hid (OwnsP wr W0.heap.size v ps) ∧ wr.cell? ⟨b, 0, none⟩ = some (.slice a1 ps.length c1) ∧ wr.cell? ⟨b, 1, none⟩ = some (.slice a2 qs.length c2) ∧ Hid (Kpt W0 wr)) ∨ (i = .int .i64 2 ∧ Hid (OwnsP wr W0.heap.size v (ps ++ qs)) ∧ Hid (Kpt W0 wr))) (fun _ _ i _ => 2 - (intOf i).toNat)
      case atStart => exact .inl ⟨rfl, HO.out, d0, d1, G1.out.kpt⟩
      case round =>
        rcases hrel with ⟨rfl, HV, e0, e1, HK⟩ | ⟨rfl, HV, e0, e1, HK⟩ | ⟨rfl, HV, HK⟩
        · have RR := Lib.hid (HR1.out.kpt HK.out)
          go_wp2_with (at_builtin; refine wp_appendP rfl (.tmp 31) (.tmp 32) rfl W0.heap.size _ _ [] ps wr rfl HV.out rfl RR.out (by simp; omega) HK.out.size ?_; intro v' w' ho' hb'; have HO' := Lib.hid ho'; have HB' : Hid (Kpt W0 w') := Below.trans HK.out hb'; have f0 := (show Kpt W0 w' from HB'.out).cell hc0; have f1 := (show Kpt W0 w' from HB'.out).cell hc1; clear ho' hb')
          go_roundw
          case rel => exact .inr (.inl ⟨rfl, HO'.out, f0, f1, HB'⟩)
          case measure => simp [intOf]
        · have RR := Lib.hid (HR2.out.kpt HK.out)
          go_wp2_with (at_builtin; refine wp_appendP rfl (.tmp 31) (.tmp 32) rfl W0.heap.size _ _ ps qs wr rfl HV.out rfl RR.out hm HK.out.size ?_; intro v' w' ho' hb'; have HO' := Lib.hid ho'; have HB' : Hid (Kpt W0 w') := Below.trans HK.out hb'; clear ho' hb')
          go_roundw
          case rel => exact .inr (.inr ⟨rfl, HO'.out, HB'⟩)
          case measure => simp [intOf]
        · go_wp2
          go_ret
          exact ⟨⟨_, rfl, HV.out⟩, HK.out⟩

end Go.Proofs.YtgccipmeiceonaaGreat

-- BookH
namespace Go.Proofs.YtgccipmeiceonaaGreat
open Go.RowKit Go.Sort Go.Lib
set_option linter.unusedVariables false

theorem OwnsP.kpt {w w' : World} {base : Nat} {v : Value} {ps : List (Int × Int × Int)} (h : OwnsP w base v ps) (g : Kpt w w') : OwnsP w' base v ps := by
  obtain ⟨h1, h2⟩ := h
  refine ⟨h1, ?_⟩
  rcases h2 with h2 | ⟨k, cap, cur, e, hk, hh, r⟩
  · exact .inl h2
  · exact .inr ⟨k, cap, cur, e, hk, (Below.block g k (Array.getElem?_eq_some_iff.1 hh).1).trans hh, r⟩
theorem OwnsP.away {w : World} {base : Nat} {v : Value} {ps : List (Int × Int × Int)} (h : OwnsP w base v ps) {p : Addr} (hp : some p.block ≠ v.ownBlock) (u : Value) : OwnsP (w.setCell p u) base v ps := by
  obtain ⟨h1, h2⟩ := h
  refine ⟨h1, ?_⟩
  rcases h2 with h2 | ⟨g, cap, cur, rfl, hg, hh, r⟩
  · exact .inl h2
  · exact .inr ⟨g, cap, cur, rfl, hg, (Below.heap_setCell w p u g (fun e => hp (by simp [Value.ownBlock, e]))).trans hh, r⟩
theorem OwnsP.lt {w : World} {base : Nat} {v : Value} {ps : List (Int × Int × Int)} (h : OwnsP w base v ps) {k : Nat} (hk : w.heap.size ≤ k) : some k ≠ v.ownBlock := fun e => by
  rcases h.2 with ⟨rfl, _⟩ | ⟨g, cap, cur, rfl, hg, hh, _⟩
  · simp [Value.ownBlock] at e
  · simp [Value.ownBlock] at e
    have := (Array.getElem?_eq_some_iff.1 hh).1
    omega
theorem kpt_grown_by (w : World) (n : Nat) (os : Array Obj) : Kpt w (Go.Sort.grow (w.drewN n) os) := ((Kpt.refl w).drewN n).grow os
def MergeRes (w : World) (s : List (Int × Int × Int)) (e : Ending) (w' : World) : Prop :=
  Kpt w w' ∧ ((∃ a u, amtB (sumAt s a u) = false ∧ e = .returned (.tuple #[.slice none 0 0, .int .i64 8])) ∨
    (∃ L v, IsBook L s ∧ (∀ a u, amtB (sumAt s a u) = true) ∧ L.length ≤ s.length ∧ OwnsP w' w.heap.size v L ∧ e = .returned (.tuple #[v, .int .i64 0])))

theorem inner_next {s : List (Int × Int × Int)} {j : Nat} (hs : s.Pairwise (fun x y => plc x ≤ plc y)) (hj : j < s.length) {x : Int} (h : x < plc (s.getD j default)) : ∀ y ∈ s.drop j, x < plc y := by
  intro y hy
  rw [List.drop_eq_getElem_cons hj] at hy
  rw [List.getD_eq_getElem?_getD, List.getElem?_eq_getElem hj] at h
  simp only [Option.getD_some] at h
  rcases List.mem_cons.1 hy with rfl | hy
  · exact h
  · have hp : (s.drop j).Pairwise (fun x y => plc x ≤ plc y) := hs.sublist (List.drop_sublist j s)
    rw [List.drop_eq_getElem_cons hj] at hp
    have := (List.pairwise_cons.1 hp).1 y hy
    omega
theorem pairs_at {s : List (Int × Int × Int)} {k j : Nat} (hs : s.Pairwise (fun x y => plc x ≤ plc y)) (hk : k ≤ j) (hj : j < s.length) : plc (s.getD k default) ≤ plc (s.getD j default) := by
  rcases Nat.lt_or_ge k j with h | h
  · have := List.pairwise_iff_getElem.1 hs k j (by omega) hj h
    rwa [List.getD_eq_getElem?_getD, List.getElem?_eq_getElem (by omega), List.getD_eq_getElem?_getD, List.getElem?_eq_getElem hj]
  · obtain rfl : k = j := by omega
    exact Int.le_refl _

/-- the postings of one place so far, and their sum -/
structure SegAt (s : List (Int × Int × Int)) (k j : Nat) (p : Int × Int × Int) (S : Int) : Prop where
  le : k ≤ j
  same : ∀ x ∈ seg s k j, plc x = plc p
  sum : S = ((seg s k j).map (·.2.2)).sum
theorem seg_start (s : List (Int × Int × Int)) (k : Nat) (p : Int × Int × Int) : SegAt s k k p 0 := ⟨Nat.le_refl _, by rw [seg_self]; simp, by rw [seg_self]; rfl⟩
theorem seg_step {s : List (Int × Int × Int)} {k j : Nat} {p : Int × Int × Int} {S : Int} (h : SegAt s k j p S) (hj : j < s.length) (e : plc (s.getD j default) = plc p) : SegAt s k (j + 1) p (S + (s.getD j default).2.2) := by
  refine ⟨by have := h.le; omega, fun x hx => ?_, ?_⟩
  · rw [seg_succ s h.le hj] at hx
    rcases List.mem_append.1 hx with hx | hx
    · exact h.same x hx
    · rw [List.mem_singleton.1 hx]; exact e
  · rw [seg_succ s h.le hj, List.map_append, List.sum_append, ← h.sum]; simp
theorem seg_okS {s : List (Int × Int × Int)} {k j : Nat} {p : Int × Int × Int} {S : Int} (h : SegAt s k j p S) (hp : ∀ x ∈ s, ptB x = true) (hn : s.length ≤ 4096) : okS S := by
  have h1 := sum_bd (zs := (seg s k j).map (·.2.2)) fun z hz => by
    obtain ⟨x, hx, rfl⟩ := List.mem_map.1 hz
    have := pt_t (hp x (List.mem_of_mem_drop (List.mem_of_mem_take hx)))
    exact amt_mk this.2.2.2.2.2.1 this.2.2.2.2.2.2
  rw [h.sum]
  refine okS_mk (k := (seg s k j).length) ?_ (by simpa using h1.1) (by simpa using h1.2)
  unfold seg
  rw [List.length_take, List.length_drop]
  omega

end Go.Proofs.YtgccipmeiceonaaGreat

-- BookI
namespace Go.Proofs.YtgccipmeiceonaaGreat
open Go.RowKit Go.Sort Go.Lib
set_option linter.unusedVariables false

theorem blk_second (w : World) (o : Obj) (ds : Array Value) (T : TypeId) : Blk ((w.alloc o).alloc (.cells ds T)) (w.heap.size + 1) ds T := by
  have := Blk.made (w.alloc o) ds T
  rwa [World.size_alloc] at this
theorem place_is (p : Int × Int × Int) (hp : ptB p = true) (W : World) : Calls Tryz.prog 82 #[.agg #[.int .i64 p.1, .int .i64 p.2.1, .int .i64 p.2.2]] W fun e w' => e = .returned (.int .i64 (plc p)) ∧ ∃ q os', w' = Go.Sort.grow (W.drewN q) os' := place_raw' p W _ (key_plc hp)

theorem reads_one (w : World) (p : Int × Int × Int) (b : Nat) (T : TypeId) (hb : w.heap.size = b) (hp : InP [p]) : ReadsP (w.alloc (.cells #[.int .i64 p.1, .int .i64 p.2.1, .int .i64 p.2.2] T)) (.slice (some ⟨b, 0, none⟩) 1 1) [p] := by
  subst hb
  refine ⟨_, 1, rfl, (fun e => by cases e), by unfold maxLen; simp, hp, fun j hj => ⟨w.heap.size, 0, rfl, ?_⟩⟩
  obtain rfl : j = 0 := by simpa using hj
  have B := Blk.made w #[.int .i64 p.1, .int .i64 p.2.1, .int .i64 p.2.2] T
  exact ⟨B.cell 0, B.cell 1, B.cell 2⟩
theorem OwnsP.alloc {w : World} {base : Nat} {v : Value} {ps : List (Int × Int × Int)} (h : OwnsP w base v ps) (o : Obj) : OwnsP (w.alloc o) base v ps := h.kpt ((Kpt.refl w).alloc o)
theorem inner_on {s : List (Int × Int × Int)} {k j : Nat} {p : Int × Int × Int} {S q0 q1 q2 K : Int} (h : SegAt s k j p S) (hj : j < s.length) (hq : (q0, q1, q2) = s.getD j default) (h1 : plc p = K) (h2 : plc (q0, q1, q2) = K) : SegAt s k (j + 1) p (S + q2) := by
  have := seg_step h hj (by rw [← hq, h1, h2])
  rwa [← hq] at this
set_option maxRecDepth 100000 in
set_option maxHeartbeats 8000000 in
theorem merge_some (b off cap : Nat) (s : List (Int × Int × Int)) (w : World) (hm : s.length ≤ 4096) (hp : ∀ x ∈ s, ptB x = true) (hs : s.Pairwise (fun x y => plc x ≤ plc y)) (hc : ∀ j, j < s.length → PtAt w b (off + j * 3) (s.getD j default)) :
    Calls Tryz.prog 83 #[.slice (some ⟨b, off, none⟩) s.length cap] w (MergeRes w s) := by
  have HC := Lib.hid hc; clear hc
  have HP := Lib.hid hp; clear hp
  have HS := Lib.hid hs; clear hs
  have mixed : Tryz.prog.follows .mixedOrders = true := by kernel_rfl
  go_enter Tryz.func83, Tryz.ntmps83
  go_wp2
  go_loopw [4, 5] (fun v i wr => ∃ (k : Nat) (L : List (Int × Int × Int)), k ≤ s.length ∧ i = .int .i64 k ∧ Hid (OwnsP wr w.heap.size v L) ∧ Hid (Merged s k L) ∧ Hid (Kpt w wr)) (fun _ i _ => s.length - (intOf i).toNat)
  case atStart => exact ⟨0, [], Nat.zero_le _, rfl, OwnsP.nil _ _, merged_start s, Kpt.refl _⟩
  case round =>
    obtain ⟨k, L, hk, rfl, HO, HM, HK⟩ := hrel
    by_cases hlt : k < s.length
    · obtain ⟨c0, c1, c2⟩ := (HC.out k hlt).kpt HK.out
      have hpp := HP.out _ (getP_mem hlt)
      obtain ⟨p, hpe⟩ : ∃ p, p = s.getD k default := ⟨_, rfl⟩
      rw [← hpe] at c0 c1 c2 hpp
      have HPE := Lib.hid hpe; clear hpe
      have PL := Lib.hid (fun W => place_is p hpp W)
      have HPP := Lib.hid hpp; clear hpp
      obtain ⟨A, U, N⟩ := p
      simp only at c0 c1 c2
      obtain ⟨wo, hwo⟩ : ∃ wo : World, wo = wr := ⟨_, rfl⟩
      subst hwo
      have sz := HK.out.size
      have NE0 := Lib.hid (HO.out.lt (k := wo.heap.size) (Nat.le_refl _))
      have NE1 := Lib.hid (HO.out.lt (k := wo.heap.size + 1) (Nat.le_succ _))
      have sz1 : w.heap.size ≤ wo.heap.size + 1 := by omega
      have szn : wo.heap.size ≠ wo.heap.size + 1 := by omega
      go_wp2
      go_loopw [5] (fun i wr => ∃ (j : Nat) (S : Int), k ≤ j ∧ j ≤ s.length ∧ i = .int .i64 j ∧ Hid (SegAt s k j (A, U, N) S) ∧ Hid (Blk wr wo.heap.size #[.int .i64 A, .int .i64 U, .int .i64 N] 49) ∧ Hid (Blk wr (wo.heap.size + 1) #[.int .i64 (hiOf S), .int .u64 (loOf S)] 98) ∧ Hid (OwnsP wr w.heap.size u4 L) ∧ Hid (Kpt w wr)) (fun i _ => s.length - (intOf i).toNat)
      case atStart => exact ⟨k, 0, Nat.le_refl _, hk, rfl, seg_start s k _, (Blk.made wo _ _).alloc _, (by unfold Hid; rw [hi_zero, lo_zero]; exact blk_second wo _ _ _), (HO.out.kpt ((Kpt.refl wo).alloc _)).kpt ((Kpt.refl _).alloc _), (HK.out.alloc _).alloc _⟩
      case round =>
        obtain ⟨j, S, hkj, hj, rfl, HG, HL, HZ, HW, HQ⟩ := hrel
        by_cases hcont : ∃ hjl : j < s.length, plc (s.getD j default) = plc (s.getD k default)
        · obtain ⟨hjl, hcont⟩ := hcont
          obtain ⟨q, hqe⟩ : ∃ q, q = s.getD j default := ⟨_, rfl⟩
          have hcj := (HC.out j hjl).kpt HQ.out
          have hqq := HP.out _ (getP_mem hjl)
          have hle := pairs_at HS.out hkj hjl
          rw [← hqe] at hcj hqq hle hcont
          rw [← HPE.out] at hle hcont
          have QL := Lib.hid (fun W => place_is q hqq W)
          have HQQ := Lib.hid hqq; clear hqq
          have HQE := Lib.hid hqe; clear hqe
          obtain ⟨d0, d1, d2⟩ := hcj
          have f0 := cell_grown (w := wr) (cell_in d0) d0
          have f1 := cell_grown (w := wr) (cell_in d1) d1
          have f2 := cell_grown (w := wr) (cell_in d2) d2
          have g0 := cell_grown (w := wr) (a := ⟨wo.heap.size, 0, none⟩) (v := .int .i64 A) HL.out.lt (HL.out.cell 0)
          have g1 := cell_grown (w := wr) (a := ⟨wo.heap.size, 1, none⟩) (v := .int .i64 U) HL.out.lt (HL.out.cell 1)
          have g2 := cell_grown (w := wr) (a := ⟨wo.heap.size, 2, none⟩) (v := .int .i64 N) HL.out.lt (HL.out.cell 2)
          have b0 : (0 : Int) ≤ (j : Int) := by omega
          have b1 : (j : Int) < (s.length : Int) := by omega
          have b2 : decide ((j : Int) < (s.length : Int)) = true := decide_eq_true b1
          have HCO := Lib.hid hcont; clear hcont
          generalize hK1 : plc (A, U, N) = K1 at PL hle
          generalize hK2 : plc q = K2 at QL hle
          have HK1 := Lib.hid hK1; have HK2 := Lib.hid hK2; clear hK1 hK2
          have D2 := Lib.hid d2
          have OKS := Lib.hid (seg_okS HG.out HP.out hm)
          have QN := Lib.hid (pt_t HQQ.out)
          clear d0 d1 d2
          obtain ⟨q0, q1, q2⟩ := q
          simp only at f0 f1 f2
          obtain ⟨-, -, -, -, -, n0, n1⟩ := QN.out
          simp only at n0 n1
          clear QN
          obtain rfl : K2 = K1 := by rw [← HK1.out, ← HK2.out]; exact HCO.out.symm ▸ rfl
          go_wp2_with fail
          go_quiet_grown (first
            | (go_at_call 82; with_reducible refine Calls.grown_of (PL.out _))
            | (go_at_call 82; with_reducible refine Calls.grown_of (QL.out _)))
          have KG := Lib.hid (kpt_grown_by wr nq osq)
          clear f0 f1 f2 g0 g1 g2
          generalize Go.Sort.grow (wr.drewN nq) osq = wr2 at *
          have BZ := Lib.hid (HZ.out.kpt KG.out)
          have h0 : wr2.cell? ⟨wo.heap.size + 1, 0, none⟩ = some (.int .i64 (hiOf S)) := BZ.out.cell 0
          have h1 : wr2.cell? ⟨wo.heap.size + 1, 1, none⟩ = some (.int .u64 (loOf S)) := BZ.out.cell 1
          have h2 : wr2.cell? ⟨b, off + j * 3 + 2, none⟩ = some (.int .i64 q2) := (show Kpt wr wr2 from KG.out).cell D2.out
          have KD := Lib.hid (show Kpt wr wr2.drew from Below.drew KG.out)
          go_wp2_with fail
          go_region_with (go_at_call 60; (with_reducible refine (plus_at S q2 _ OKS.out (by omega) (by omega)).mono ?_); rintro e w3 ⟨rfl, t3⟩; have B3 := Lib.hid ((BZ.out.drew).grew t3); have i0 : w3.cell? ⟨wo.heap.size + 1, 0, none⟩ = some (.int .i64 (hiOf S)) := B3.out.cell 0; have i1 : w3.cell? ⟨wo.heap.size + 1, 1, none⟩ = some (.int .u64 (loOf S)) := B3.out.cell 1; have i2 := B3.out.frozen 0; have i3 := B3.out.frozen 1; have G3 := Lib.hid (ktr KD.out t3.kpt); clear t3)
          all_goals
            go_wp2
            go_roundw
            case rel =>
              refine ⟨j + 1, S + q2, by omega, by omega, by go_num, inner_on HG.out hjl HQE.out HK1.out HK2.out, ?_, (B3.out.put 0 _).put 1 _, ?_, ?_⟩
              · exact ((HL.out.kpt G3.out).away szn _).away szn _
              · exact ((HW.out.kpt G3.out).away NE1.out _).away NE1.out _
              · exact ((ktr HQ.out G3.out).setCell sz1 _).setCell sz1 _
            case measure => simp [intOf]; omega
        · have hr : ∀ y ∈ s.drop j, plc (A, U, N) < plc y := by
            rw [HPE.out]
            by_cases hjl : j < s.length
            · have h1 := pairs_at HS.out hkj hjl
              have h2 : ¬ plc (s.getD j default) = plc (s.getD k default) := fun q => hcont ⟨hjl, q⟩
              exact inner_next HS.out hjl (by omega)
            · rw [List.drop_eq_nil_of_le (by omega)]; simp
          have hkj' : k < j := by
            rcases Nat.lt_or_ge k j with h | h
            · exact h
            · obtain rfl : k = j := by omega
              exact absurd ⟨hlt, rfl⟩ hcont
          have MS := Lib.hid (merged_sum HM.out HP.out HPP.out hlt hkj' HPE.out HG.out.same hr)
          have MT := Lib.hid (fun hS => merged_step HM.out HP.out HPP.out hlt hkj' HPE.out HG.out.same hr hS)
          unfold Hid at MS MT
          rw [← HG.out.sum] at MS MT
          have MS' := Lib.hid MS; have MT' := Lib.hid MT; clear MS MT hr
          have HCO := Lib.hid hcont; clear hcont
          by_cases hjl : j < s.length
          case' pos =>
            obtain ⟨q, hqe⟩ : ∃ q, q = s.getD j default := ⟨_, rfl⟩
            have hcj := (HC.out j hjl).kpt HQ.out
            have hqq := HP.out _ (getP_mem hjl)
            have hle := pairs_at HS.out hkj hjl
            rw [← hqe] at hcj hqq hle
            rw [← HPE.out] at hle
            have QL := Lib.hid (fun W => place_is q hqq W)
            have HQQ := Lib.hid hqq; clear hqq
            have HQE := Lib.hid hqe; clear hqe
            obtain ⟨d0, d1, d2⟩ := hcj
            have f0 := cell_grown (w := wr) (cell_in d0) d0
            have f1 := cell_grown (w := wr) (cell_in d1) d1
            have f2 := cell_grown (w := wr) (cell_in d2) d2
            have g0 := cell_grown (w := wr) (a := ⟨wo.heap.size, 0, none⟩) (v := .int .i64 A) HL.out.lt (HL.out.cell 0)
            have g1 := cell_grown (w := wr) (a := ⟨wo.heap.size, 1, none⟩) (v := .int .i64 U) HL.out.lt (HL.out.cell 1)
            have g2 := cell_grown (w := wr) (a := ⟨wo.heap.size, 2, none⟩) (v := .int .i64 N) HL.out.lt (HL.out.cell 2)
            have b0 : (0 : Int) ≤ (j : Int) := by omega
            have b1 : (j : Int) < (s.length : Int) := by omega
            have b2 : decide ((j : Int) < (s.length : Int)) = true := decide_eq_true b1
            generalize hK1 : plc (A, U, N) = K1 at PL hle
            generalize hK2 : plc q = K2 at QL hle
            have HK1 := Lib.hid hK1; have HK2 := Lib.hid hK2; clear hK1 hK2
            have D2 := Lib.hid d2
            have OKS := Lib.hid (seg_okS HG.out HP.out hm)
            have QN := Lib.hid (pt_t HQQ.out)
            clear d0 d1 d2
            obtain ⟨q0, q1, q2⟩ := q
            simp only at f0 f1 f2
            obtain ⟨-, -, -, -, -, n0, n1⟩ := QN.out
            simp only at n0 n1
            clear QN
            have hk12 : (K2 == K1) = false := beq_eq_false_iff_ne.2 fun q => HCO.out ⟨hjl, by rw [← HQE.out, ← HPE.out, HK1.out, HK2.out]; exact q⟩
            go_wp2_with fail
            go_quiet_grown (first
              | (go_at_call 82; with_reducible refine Calls.grown_of (PL.out _))
              | (go_at_call 82; with_reducible refine Calls.grown_of (QL.out _)))
          case' neg =>
            have b2 : decide ((j : Int) < (s.length : Int)) = false := decide_eq_false (by omega)
            go_wp2_with fail
            go_quiet_grown (fail)
          all_goals
            have KG := Lib.hid (kpt_grown_by wr nq osq)
            generalize Go.Sort.grow (wr.drewN nq) osq = wr2 at *
            (try clear f0 f1 f2 g0 g1 g2)
            have BZ := Lib.hid (HZ.out.kpt KG.out)
            have BL := Lib.hid (HL.out.kpt KG.out)
            have HW2 := Lib.hid (HW.out.kpt KG.out)
            have HQ2 := Lib.hid (ktr HQ.out KG.out)
            have h0 : wr2.cell? ⟨wo.heap.size + 1, 0, none⟩ = some (.int .i64 (hiOf S)) := BZ.out.cell 0
            have h1 : wr2.cell? ⟨wo.heap.size + 1, 1, none⟩ = some (.int .u64 (loOf S)) := BZ.out.cell 1
            cases hS : amtB S with
            | false =>
              have AM := Lib.hid (fun W => amount_no S W hS)
              have BAD : Hid (amtB (sumAt s A U) = false) := by unfold Hid; rw [MS'.out.2]; exact hS
              clear hS
              go_wp2_with (go_at_call 114; (with_reducible refine (AM.out _).mono ?_); rintro e w4 ⟨rfl, t4⟩)
              go_ret2
              exact ⟨ktr HQ2.out t4.kpt, .inl ⟨A, U, BAD.out, rfl⟩⟩
            | true =>
              have AM := Lib.hid (fun W => amount_ok S W hS)
              have SB := amt_t hS
              have MT2 := Lib.hid (MT'.out hS)
              clear hS
              by_cases hz : S = 0
              · have z : (S != 0) = false := by rw [hz]; rfl
                have HM2 := Lib.hid (MT2.out.1 hz)
                clear hz
                go_wp2_with (go_at_call 114; (with_reducible refine (AM.out _).mono ?_); rintro e w4 ⟨rfl, t4⟩)
                go_roundw
                case rel => exact ⟨j, L, hj, rfl, HW2.out.kpt t4.kpt, HM2.out, ktr HQ2.out t4.kpt⟩
                case measure => simp [intOf]; omega
              · have z : (S != 0) = true := bne_iff_ne.2 hz
                have HM2 := Lib.hid (MT2.out.2 hz)
                have hfew := HM.out.few
                have hIn : Hid (InP [(A, U, S)]) := fun x hx => by
                  rw [List.mem_singleton.1 hx]
                  have := pt_t HPP.out
                  simp only at this ⊢
                  omega
                clear hz
                go_wp2_with (first
                  | (go_at_call 114; (with_reducible refine (AM.out _).mono ?_); rintro e w4 ⟨rfl, t4⟩; have BL4 := Lib.hid (BL.out.grew t4); have l0 : w4.cell? ⟨wo.heap.size, 0, none⟩ = some (.int .i64 A) := BL4.out.cell 0; have l1 : w4.cell? ⟨wo.heap.size, 1, none⟩ = some (.int .i64 U) := BL4.out.cell 1; have l2 : w4.cell? ⟨wo.heap.size, 2, none⟩ = some (.int .i64 N) := BL4.out.cell 2; have l3 := BL4.out.frozen 2; have HWx := Lib.hid (((HW2.out.kpt t4.kpt).away (p := ⟨wo.heap.size, 2, none⟩) NE0.out (.int .i64 S)).alloc (.cells #[.int .i64 A, .int .i64 U, .int .i64 S] 49)); have HRx := Lib.hid (reads_one (w4.setCell ⟨wo.heap.size, 2, none⟩ (.int .i64 S)) (A, U, S) w4.heap.size 49 (by simp) hIn.out); have HKx := Lib.hid (((ktr HQ2.out t4.kpt).setCell (p := ⟨wo.heap.size, 2, none⟩) sz (.int .i64 S)).alloc (.cells #[.int .i64 A, .int .i64 U, .int .i64 S] 49)); clear t4)
                  | (at_builtin; refine wp_appendP rfl (.tmp 53) (.tmp 55) rfl w.heap.size _ _ L [(A, U, S)] _ rfl HWx.out rfl HRx.out (by simp; omega) HKx.out.size ?_; intro v' w5 ho' hb'; have HO' := Lib.hid ho'; have HB' : Hid (Kpt w w5) := Below.trans HKx.out hb'; clear ho' hb'))
                go_roundw
                case rel => exact ⟨j, L ++ [(A, U, S)], hj, rfl, HO'.out, HM2.out, HB'⟩
                case measure => simp [intOf]; omega
    · obtain rfl : k = s.length := by omega
      have ME := Lib.hid (merged_end HM.out)
      have FE := Lib.hid HM.out.few
      go_wp2
      go_ret2
      exact ⟨HK.out, .inr ⟨L, _, ME.out.1, ME.out.2, FE.out, HO.out, rfl⟩⟩

end Go.Proofs.YtgccipmeiceonaaGreat
