/-
  Merged: BookD, BookE, BookF, BookG.
-/
import Derived.Test.YthaahebggboliaaGreatMb2
import Derived.Test.YthaahebggboliaaGreatKept
import Derived.Test.YthaahebggboliaaGreatShelf2
import Derived.Test.YthaahebggboliaaGreatShelf
import Derived.Laws.AppendOwnNone
import Derived.Shelf.SlSortCmp.QuietGrown
import Derived.Shelf.SlSortCmp.WholeK
-- BookD
namespace Go.Proofs.YthaahebggboliaaGreat
open Go.RowKit
set_option linter.unusedVariables false

/-- the slice v is the call's own, from block 'base' on, and holds these postings -/
def OwnsP (w : World) (base : Nat) (v : Value) (ps : List (Int × Int × Int)) : Prop := w.ownsRow base 55 3 v ps.length (flatP ps)
theorem OwnsP.nil (w : World) (base : Nat) : OwnsP w base (.slice none 0 0) [] := ⟨rfl, .inl ⟨rfl, rfl⟩⟩
theorem OwnsP.ge {w : World} {base : Nat} {v : Value} {ps : List (Int × Int × Int)} (h : OwnsP w base v ps) : ∀ k, v.ownBlock = some k → base ≤ k := by
  intro k hk
  rcases h.2 with ⟨rfl, _⟩ | ⟨g, cap, cur, rfl, hg, _⟩
  · simp [Value.ownBlock] at hk
  · simp [Value.ownBlock] at hk; omega
theorem inP_of {ps : List (Int × Int × Int)} (h : ∀ p ∈ ps, ptB p = true) : InP ps := fun p hp => by
  have := pt_t (h p hp); omega
/-- what is owned reads -/
theorem OwnsP.reads {w : World} {base : Nat} {v : Value} {ps : List (Int × Int × Int)} (h : OwnsP w base v ps) (hb : InP ps) : ReadsP w v ps := by
  rcases h.2 with ⟨rfl, hn⟩ | ⟨k, cap, cur, rfl, hk, hh, hn, hm, hs, ht⟩
  · obtain rfl : ps = [] := List.eq_nil_of_length_eq_zero hn
    exact readsP_nil w none 0 (fun _ => rfl)
  · refine ⟨_, cap, rfl, (fun e => by cases e), Nat.le_trans hn hm, hb, fun j hj => ⟨k, 0, rfl, ?_⟩⟩
    have hc : ∀ i, w.cell? ⟨k, i, none⟩ = cur[i]? := fun i => cell_of_row w k i cur _ (0, 0) hh
    have hi : ∀ i, i < ps.length * 3 → cur[i]? = (flatP ps)[i]? := fun i hi => by
      rw [← ht, List.getElem?_take_of_lt (by omega), ← Array.getElem?_toList]
    obtain ⟨e0, e1, e2⟩ := flatP_at ps j hj
    rw [Nat.zero_add]
    exact ⟨by rw [hc, hi _ (by omega), e0], by rw [hc, hi _ (by omega), e1], by rw [hc, hi _ (by omega), e2]⟩

theorem Tryz.infoPost : (Tryz.prog.info? 55).map (fun i => (i.zero, i.size, i.bytes)) = some (some (.agg #[.int .i64 0, .int .i64 0, .int .i64 0]), 3, 24) := by kernel_rfl

/-- append of postings that are read to a slice of the call's own -/
theorem wp_appendP {ops : Array Oper} {rest : List Oper} {o : Oper} {a : Act} {Q : Exit → Act → World → Prop} (hgd : o.guard = none) (s x : Operand)
    (ho : o.op = .call { callee := .builtin .append, args := #[s, x], argTypes := #[29, 29] })
    (base : Nat) (v u : Value) (ps qs : List (Int × Int × Int)) (w : World) (hs : a.eval s = v) (hown : OwnsP w base v ps) (hx : a.eval x = u) (hr : ReadsP w u qs)
    (hlen : ps.length + qs.length ≤ 100000) (hbase : base ≤ w.heap.size)
    (h : ∀ v' w', OwnsP w' base v' (ps ++ qs) → Below base w w' → wpList Tryz.prog ops Q rest (a.put o.dst v') w') : wpList Tryz.prog ops Q (o :: rest) a w := by
  obtain ⟨i0, hi, hz0, hz1, hz2⟩ := info_parts Tryz.infoPost
  obtain ⟨ad, cap, rfl, hn, hm, hb, hc⟩ := hr
  cases ad with
  | none =>
    obtain rfl := hn rfl
    have h0 : qs = [] := by
      cases qs with
      | nil => rfl
      | cons q l => obtain ⟨b, off, e, _⟩ := hc 0 (by simp); cases e
    subst h0
    refine wpList_append_own_none hgd s x 29 ho base 55 i0 3 Tryz.underlying29 hi v _ _ hs hown hx ?_
    exact h v w (by rw [List.append_nil]; exact hown) (Below.refl _ _)
  | some ad =>
    refine wpList_append_own _ hgd s x 29 ho base 55 i0 _ 3 24 Tryz.underlying29 hi hz0 hz1 hz2 rfl (by decide) v _ _ hs hown ad qs.length cap (flatP qs) hx (flatP_len qs) ?_ (flatP_one qs) ?_ ?_ hbase ?_
    · intro j u hu
      have hj : j < qs.length * 3 := by
        have := (List.getElem?_eq_some_iff.1 hu).1
        rwa [flatP_len] at this
      obtain ⟨q, r, hr, rfl⟩ : ∃ q r, r < 3 ∧ j = q * 3 + r := ⟨j / 3, j % 3, by omega, by omega⟩
      have hq : q < qs.length := by omega
      obtain ⟨b, off, e, h1, h2, h3⟩ := hc q hq
      have e' := Option.some.inj e
      clear hb
      subst e'
      obtain ⟨e0, e1, e2⟩ := flatP_at qs q hq
      have ea : (⟨b, off, none⟩ : Addr).add (q * 3 + r) = ⟨b, off + q * 3 + r, none⟩ := by simp [Addr.add, Nat.add_assoc]
      rw [ea]
      rcases (show r = 0 ∨ r = 1 ∨ r = 2 by omega) with rfl | rfl | rfl
      · rw [Nat.add_zero] at hu ⊢; rw [e0] at hu; rw [← hu]; exact h1
      · rw [e1] at hu; rw [← hu]; exact h2
      · rw [e2] at hu; rw [← hu]; exact h3
    · unfold maxLen; omega
    · omega
    · intro v' w' h1 h2 _
      refine h v' w' ?_ ((Below.refl base w).grown h2 hbase hown.ge)
      unfold OwnsP
      rw [List.length_append, flatP_append]
      exact h1

/-- slices.Grow of nothing -/
theorem grow_new (n : Nat) (w : World) (h0 : 0 < n) (h1 : n ≤ 100000) :
    Calls Tryz.prog 133 #[.slice none 0 0, .int .i64 n] w fun e w' => (∃ G, e = .returned (.slice (some ⟨w.heap.size, 0, none⟩) 0 G) ∧ OwnsP w' w.heap.size (.slice (some ⟨w.heap.size, 0, none⟩) 0 G) []) ∧ Grew w w' := by
  obtain ⟨i0, hi, hz0, hz1, hz2⟩ := info_parts Tryz.infoPost
  refine (Any8.slices_Grow_grow Tryz.growP i0 _ hi hz0 (by omega) none 0 0 n [] w (Nat.le_refl _) (by omega) (by rw [hz2]; omega) (by omega) (by simp) (fun _ => rfl) (fun a e => by cases e)).mono ?_
  rintro e w' ⟨rfl, rfl⟩
  have hge := grownCap_ge w (0 + n) 0 55
  have hle := grownCap_le_maxLen w (0 + n) 0 55 (by unfold maxLen; omega)
  refine ⟨⟨_, rfl, rfl, .inr ⟨_, _, _, rfl, Nat.le_refl _, heap_alloc_new _ _, Nat.zero_le _, hle, ?_, rfl⟩⟩, (Grew.refl w).drew.alloc _ _⟩
  have z3 : (Value.agg #[.int .i64 0, .int .i64 0, .int .i64 0]).cells.size = 3 := rfl
  rw [Array.size_append, Array.size_append, size_zeroCells, size_zeroCells, z3]
  simp only [List.size_toArray, List.length_nil]
  have et : Tryz.growP_ren.t 25 = 55 := rfl
  rw [et]
  omega

end Go.Proofs.YthaahebggboliaaGreat

-- BookE
namespace Go.Proofs.YthaahebggboliaaGreat
open Go.RowKit Go.Sort Go.Lib
set_option linter.unusedVariables false

/-- the key by which lines are sorted, whatever numbers they hold -/
def keyP (p : Int × Int × Int) : Int := wrap64 (wrap64 (p.1 * 21) + p.2.1)
theorem key_plc {p : Int × Int × Int} (h : ptB p = true) : keyP p = plc p := by
  have := pt_t h
  unfold keyP plc wrap64
  omega
def encP (p : Int × Int × Int) : List Value := [.int .i64 p.1, .int .i64 p.2.1, .int .i64 p.2.2]

theorem place_raw (a u n : Int) (W : World) : Calls Tryz.prog 105 #[.agg #[.int .i64 a, .int .i64 u, .int .i64 n]] W fun e w' => e = .returned (.int .i64 (wrap64 (wrap64 (a * 21) + u))) ∧ ∃ q os', w' = Go.Sort.grow (W.drewN q) os' := by
  go_enter Tryz.func105, Tryz.ntmps105
  go_wp2
  go_ret
  exact ⟨rfl, 0, _, alloc_eq_grow _ _⟩
theorem place_raw' (p : Int × Int × Int) (W : World) (K : Int) (h : keyP p = K) : Calls Tryz.prog 105 #[.agg #[.int .i64 p.1, .int .i64 p.2.1, .int .i64 p.2.2]] W fun e w' => e = .returned (.int .i64 K) ∧ ∃ q os', w' = Go.Sort.grow (W.drewN q) os' := h ▸ place_raw p.1 p.2.1 p.2.2 W

theorem quiet_grown {W : World} {r : Int} : ∀ (e : Ending) (w' : World), (e = .returned (.int .i64 r) ∧ w' = W) → e = .returned (.int .i64 r) ∧ ∃ q os', w' = Go.Sort.grow (W.drewN q) os' := fun e w' h => ⟨h.1, 0, #[], by rw [h.2, grow_empty]; rfl⟩
set_option maxRecDepth 100000 in
set_option maxHeartbeats 1000000 in
theorem closure_run (x y : Int × Int × Int) (W : World) : Calls Tryz.prog 112 #[.agg #[.int .i64 x.1, .int .i64 x.2.1, .int .i64 x.2.2], .agg #[.int .i64 y.1, .int .i64 y.2.1, .int .i64 y.2.2]] W fun e w' => e = .returned (.int .i64 (Lib.compareInt (keyP x) (keyP y))) ∧ ∃ q os', w' = Go.Sort.grow (W.drewN q) os' := by
  have hx := Lib.hid (fun W => place_raw' x W _ rfl)
  have hy := Lib.hid (fun W => place_raw' y W _ rfl)
  generalize keyP x = X at *
  generalize keyP y = Y at *
  obtain ⟨x0, x1, x2⟩ := x
  obtain ⟨y0, y1, y2⟩ := y
  have hcon := Lib.hid (fun W' => Tryz.cmp_Compare_int X Y W')
  generalize Lib.compareInt X Y = r at hcon ⊢
  go_enter Tryz.func112, Tryz.ntmps112
  go_wp2
  have B0 := (Blk.made W #[.int .i64 x0, .int .i64 x1, .int .i64 x2] 55).alloc (.cells #[.int .i64 y0, .int .i64 y1, .int .i64 y2] 55)
  have B1 : Blk ((W.alloc (.cells #[.int .i64 x0, .int .i64 x1, .int .i64 x2] 55)).alloc (.cells #[.int .i64 y0, .int .i64 y1, .int .i64 y2] 55)) (W.heap.size + 1) #[.int .i64 y0, .int .i64 y1, .int .i64 y2] 55 := of_second W _ _ _
  have HE : Hid (∀ n os, ∃ q os', Go.Sort.grow (((W.alloc (.cells #[.int .i64 x0, .int .i64 x1, .int .i64 x2] 55)).alloc (.cells #[.int .i64 y0, .int .i64 y1, .int .i64 y2] 55)).drewN n) os = Go.Sort.grow (W.drewN q) os') := fun n os => ⟨n, _, by rw [alloc_eq_grow, alloc_eq_grow, grow_grow]; exact grow_grow (W.drewN n) _ _⟩
  generalize (W.alloc (.cells #[.int .i64 x0, .int .i64 x1, .int .i64 x2] 55)).alloc (.cells #[.int .i64 y0, .int .i64 y1, .int .i64 y2] 55) = W2 at *
  have f0 := cell_grown (w := W2) (a := ⟨W.heap.size, 0, none⟩) (v := .int .i64 x0) B0.lt (B0.cell 0)
  have f1 := cell_grown (w := W2) (a := ⟨W.heap.size, 1, none⟩) (v := .int .i64 x1) B0.lt (B0.cell 1)
  have f2 := cell_grown (w := W2) (a := ⟨W.heap.size, 2, none⟩) (v := .int .i64 x2) B0.lt (B0.cell 2)
  have g0 := cell_grown (w := W2) (a := ⟨W.heap.size + 1, 0, none⟩) (v := .int .i64 y0) B1.lt (B1.cell 0)
  have g1 := cell_grown (w := W2) (a := ⟨W.heap.size + 1, 1, none⟩) (v := .int .i64 y1) B1.lt (B1.cell 1)
  have g2 := cell_grown (w := W2) (a := ⟨W.heap.size + 1, 2, none⟩) (v := .int .i64 y2) B1.lt (B1.cell 2)
  clear B0 B1
  have mixed : Tryz.prog.follows .mixedOrders = true := by kernel_rfl
  go_quiet_grown (first
    | (go_at_call 105; with_reducible refine Calls.grown_of (hx.out _))
    | (go_at_call 105; with_reducible refine Calls.grown_of (hy.out _))
    | (go_at_call 113; with_reducible refine Calls.grown_of ((hcon.out _).mono quiet_grown)))
  go_wp2
  go_ret
  exact ⟨rfl, HE.out _ _⟩

end Go.Proofs.YthaahebggboliaaGreat

-- BookF
namespace Go.Proofs.YthaahebggboliaaGreat
open Go.RowKit Go.Sort Go.Lib
set_option linter.unusedVariables false

theorem flatK_eq (ps : List (Int × Int × Int)) : flatK encP 3 ps.toArray = (flatP ps).toArray := by
  apply Array.ext
  · simp [flatP_len]
  · intro t h1 h2
    have ht : t < ps.length * 3 := by simpa using h1
    apply Option.some.inj
    rw [← Array.getElem?_eq_getElem, ← Array.getElem?_eq_getElem]
    obtain ⟨q, r, hr, rfl⟩ : ∃ q r, r < 3 ∧ t = q * 3 + r := ⟨t / 3, t % 3, by omega, by omega⟩
    have hq : q < ps.length := by omega
    have e := get_flatK encP 3 ps.toArray (q * 3 + r) (by simpa using ht)
    rw [show (q * 3 + r) / 3 = q by omega, show (q * 3 + r) % 3 = r by omega] at e
    rw [Array.getElem?_eq_getElem h1, ← getElem!_pos (flatK encP 3 ps.toArray) (q * 3 + r) h1, e]
    obtain ⟨e0, e1, e2⟩ := flatP_at ps q hq
    have eg : ps.toArray[q]! = ps.getD q default := by
      rw [getElem!_pos ps.toArray q (by simpa using hq), List.getD_eq_getElem?_getD, List.getElem?_eq_getElem hq]; simp
    rw [eg, List.getElem?_toArray]
    rcases (show r = 0 ∨ r = 1 ∨ r = 2 by omega) with rfl | rfl | rfl
    · rw [Nat.add_zero, e0]; rfl
    · rw [e1]; rfl
    · rw [e2]; rfl
theorem heap_put {w : World} {g n : Nat} {os : Array Obj} {cur : Array Value} {e : TypeId} {fr : Nat × Nat} (d : Array Value) (hb : w.heap[g]? = some (.cells cur e fr)) :
    (Go.Sort.grow (putRow id (Sort.ahead w n) g 0 d) os).heap[g]? = some (.cells (putCells id 0 d cur) e fr) := by
  have hg : g < w.heap.size := (Array.getElem?_eq_some_iff.1 hb).1
  rw [heap_grow_old _ _ (by simpa using hg)]
  simp [putRow, mapBlock, Sort.ahead, Array.getElem?_modify, hb, onCells]
theorem grown_put {w : World} {g n : Nat} {os : Array Obj} (d : Array Value) : w.grownBy (Go.Sort.grow (putRow id (Sort.ahead w n) g 0 d) os) (some g) := by
  refine ⟨rfl, rfl, rfl, by simp, fun k hk hne => ?_⟩
  rw [heap_grow_old _ _ (by simpa using hk)]
  have : g ≠ k := fun e => hne (by rw [e])
  simp [putRow, mapBlock, Sort.ahead, Array.getElem?_modify, this]
theorem take_put (cur : Array Value) (xs : List Value) (h : xs.length ≤ cur.size) : (putCells id 0 xs.toArray cur).toList.take xs.length = xs := by
  apply List.ext_getElem?
  intro j
  by_cases hj : j < xs.length
  · rw [List.getElem?_take_of_lt hj, Array.getElem?_toList]
    simp [putCells, hj, show j < cur.size by omega]
  · rw [List.getElem?_take_eq_none (by omega), List.getElem?_eq_none (by omega)]

theorem cmp_lt (a b : Int) : decide (Lib.compareInt a b < 0) = decide (a < b) := by
  unfold Lib.compareInt
  by_cases h1 : a < b
  · simp [h1]
  · by_cases h2 : b < a <;> simp [h1, h2]
theorem swo_key : SWO (ltOf fun x y : Int × Int × Int => Lib.compareInt (keyP x) (keyP y)) := by
  have e : ∀ x y : Int × Int × Int, ltOf (fun x y => Lib.compareInt (keyP x) (keyP y)) x y = decide (keyP x < keyP y) := fun x y => by
    exact cmp_lt _ _
  refine ⟨fun x => ?_, fun x y z h1 h2 => ?_, fun x y z h1 h2 => ?_⟩
  · rw [e]; simp
  · rw [e] at *; simp at *; omega
  · rw [e] at *; simp at *; omega

theorem holds_own {w : World} {g : Nat} {cur : Array Value} {e : TypeId} {ps : List (Int × Int × Int)} (hb : w.heap[g]? = some (.cells cur e (0, 0))) (ht : cur.toList.take (ps.length * 3) = flatP ps) : HoldsK encP 3 w g 0 ps.toArray := by
  unfold HoldsK
  rw [flatK_eq]
  intro j hj
  have hj' : j < ps.length * 3 := by rw [← flatP_len]; simpa using hj
  refine ⟨?_, by simp [World.frozen?, hb]⟩
  have h1 : (cur.toList.take (ps.length * 3))[j]? = (flatP ps)[j]? := by rw [ht]
  rw [List.getElem?_take_of_lt hj'] at h1
  rw [Nat.zero_add, cell_of_row w g j cur e (0, 0) hb, ← Array.getElem?_toList, h1]
  rw [getElem!_pos (flatP ps).toArray j hj]
  simp

theorem eg48 : ∀ args w, (callFunc 112 args).run Tryz.prog w = .ok (.enter 112 args) w := enters_of Tryz.func112 (by kernel_rfl) rfl

/-- slices.SortFunc at postings of the call's own: they are put in the order of their keys -/
theorem sort_run (w : World) (base blk cap : Nat) (ps : List (Int × Int × Int)) (h : OwnsP w base (.slice (some ⟨blk, 0, none⟩) ps.length cap) ps) (hn : ps.length ≤ 100000) :
    Calls Tryz.prog 111 #[.slice (some ⟨blk, 0, none⟩) ps.length cap, .func (.func 112) #[] #[]] w fun e w' =>
      e = .returned (.tuple #[]) ∧ ∃ qs : List (Int × Int × Int), qs.Perm ps ∧ qs.Pairwise (fun x y => keyP x ≤ keyP y) ∧ OwnsP w' base (.slice (some ⟨blk, 0, none⟩) qs.length cap) qs ∧ w.grownBy w' (some blk) := by
  rcases h.2 with ⟨e, _⟩ | ⟨k, cap', cur, e, hk, hh, hc, hm, hs, ht⟩
  · cases e
  · injection e with e1 e2 e3
    injection e1 with e1
    injection e1 with e1 _ _
    subst e1; subst e3
    have hlt : blk < w.heap.size := (Array.getElem?_eq_some_iff.1 hh).1
    have aE : ∀ w, (isAgg 55).run Tryz.prog w = .ok true w := fun w => by kernel_rfl
    have zE : ∀ w, (Go.sizeOf 55).run Tryz.prog w = .ok 3 w := fun w => by kernel_rfl
    have hcon := AnyQ.slices_SortFunc Tryz.sortP 3 aE zE encP (fun _ => rfl) (fun x v hv => by simp [encP] at hv; rcases hv with rfl | rfl | rfl <;> rfl) (fun x y => Lib.compareInt (keyP x) (keyP y)) swo_key 112 #[] blk 0 cap ps.toArray w eg48 (fun _ _ _ _ x y => closure_run x y _) (holds_own hh ht) hlt (by simp; omega)
    refine hcon.mono ?_
    rintro e w' ⟨rfl, d', n, os, ⟨hsz, -, hp⟩, hso, rfl⟩
    have hl : d'.size = ps.length := by simpa using hsz
    refine ⟨rfl, d'.toList, ?_, ?_, ?_, ?_⟩
    · have e1 : (d'.extract 0 ps.toArray.size).toList = d'.toList := by simp [← hl]
      have e2 : (ps.toArray.extract 0 ps.toArray.size).toList = ps := by simp
      rw [e1, e2] at hp
      exact hp
    · rw [List.pairwise_iff_getElem]
      intro i j hi hj hij
      have hi' : i < d'.size := by simpa using hi
      have hj' : j < d'.size := by simpa using hj
      have := hso i j (Nat.zero_le _) hij (by simp; omega)
      rw [getElem!_pos d' i hi', getElem!_pos d' j hj'] at this
      unfold ltOf Lib.compareInt at this
      simp only [decide_eq_false_iff_not] at this
      simp only [Array.getElem_toList]
      refine Int.not_lt.1 fun q => this ?_
      rw [if_pos q]
      decide
    · refine ⟨flatP_len _, .inr ⟨blk, cap, putCells id 0 (flatP d'.toList).toArray cur, rfl, hk, ?_, by simpa [hl] using hc, hm, by simp [putCells, hs], ?_⟩⟩
      · have := heap_put (n := n) (os := os) (flatP d'.toList).toArray hh
        rw [← flatK_eq] at this ⊢
        exact this
      · have := take_put cur (flatP d'.toList) (by rw [flatP_len, hs]; simp [hl]; omega)
        rw [flatP_len] at this
        exact this
    · have := grown_put (w := w) (g := blk) (n := n) (os := os) (flatK encP 3 d')
      exact this

end Go.Proofs.YthaahebggboliaaGreat

-- BookG
namespace Go.Proofs.YthaahebggboliaaGreat
open Go.RowKit
set_option linter.unusedVariables false

theorem own_shape {w : World} {base : Nat} {v : Value} {ps : List (Int × Int × Int)} (h : OwnsP w base v ps) (hn : v = .slice none 0 0 → False) : ∃ blk cap, v = .slice (some ⟨blk, 0, none⟩) ps.length cap := by
  rcases h.2 with ⟨e, _⟩ | ⟨k, cap, cur, e, _⟩
  · exact absurd e hn
  · exact ⟨k, cap, e⟩

set_option maxRecDepth 100000 in
set_option maxHeartbeats 2000000 in
theorem concat2 (W0 : World) (b : Nat) (a1 a2 : Option Addr) (c1 c2 : Nat) (ps qs : List (Int × Int × Int)) (hc0 : W0.cell? ⟨b, 0, none⟩ = some (.slice a1 ps.length c1)) (hc1 : W0.cell? ⟨b, 1, none⟩ = some (.slice a2 qs.length c2))
    (R1 : ReadsP W0 (.slice a1 ps.length c1) ps) (R2 : ReadsP W0 (.slice a2 qs.length c2) qs) (h0 : 0 < ps.length + qs.length) (hm : ps.length + qs.length ≤ 100000) :
    Calls Tryz.prog 110 #[.slice (some ⟨b, 0, none⟩) 2 2] W0 fun e w' => (∃ v, e = .returned v ∧ OwnsP w' W0.heap.size v (ps ++ qs)) ∧ Kpt W0 w' := by
  have HR1 := Lib.hid R1; have HR2 := Lib.hid R2; clear R1 R2
  have HG := Lib.hid (fun w => grow_new (ps.length + qs.length) w h0 hm)
  have HP := Lib.hid (show ((ps.length + qs.length : Nat) : Int) = (ps.length : Int) + (qs.length : Int) by omega)
  unfold Hid at HG
  rw [HP.out] at HG
  have HG' := Lib.hid HG; clear HG
  go_enter Tryz.func110, Tryz.ntmps110
  go_wp2
  go_loop [3, 5, 11] (fun s x i => (i = .int .i64 0 ∧ s = .int .i64 0) ∨ (i = .int .i64 1 ∧ s = .int .i64 ps.length) ∨ (i = .int .i64 2 ∧ s = .int .i64 ((ps.length : Int) + (qs.length : Int)))) (fun _ _ i => 2 - (intOf i).toNat)
  case atStart => exact .inl ⟨rfl, rfl⟩
  case round =>
    rcases hrel with ⟨rfl, rfl⟩ | ⟨rfl, rfl⟩ | ⟨rfl, rfl⟩
    · go_wp2
      go_round
      case rel => exact .inr (.inl ⟨rfl, by simp⟩)
      case measure => simp [intOf]
    · go_wp2
      go_round
      case rel => exact .inr (.inr ⟨rfl, rfl⟩)
      case measure => simp [intOf]
    · go_wp2_with (go_at_call 133; (with_reducible refine (HG'.out _).mono ?_); rintro e w1 ⟨⟨G, rfl, ho⟩, g1⟩; have HO := Lib.hid ho; have G1 := Lib.hid g1; clear ho g1)
      have d0 := G1.out.cell (cell_in hc0) hc0
      have d1 := G1.out.cell (cell_in hc1) hc1
      go_loopw [6, 8, 27] (fun v x i wr => (i = .int .i64 0 ∧ Hid (OwnsP wr W0.heap.size v []) ∧ wr.cell? ⟨b, 0, none⟩ = some (.slice a1 ps.length c1) ∧ wr.cell? ⟨b, 1, none⟩ = some (.slice a2 qs.length c2) ∧ Hid (Kpt W0 wr)) ∨ (i = .int .i64 1 ∧ Hid (OwnsP wr W0.heap.size v ps) ∧ wr.cell? ⟨b, 0, none⟩ = some (.slice a1 ps.length c1) ∧ wr.cell? ⟨b, 1, none⟩ = some (.slice a2 qs.length c2) ∧ Hid (Kpt W0 wr)) ∨ (i = .int .i64 2 ∧ Hid (OwnsP wr W0.heap.size v (ps ++ qs)) ∧ Hid (Kpt W0 wr))) (fun _ _ i _ => 2 - (intOf i).toNat)
      case atStart => exact .inl ⟨rfl, HO.out, d0, d1, G1.out.kpt⟩
      case round =>
        rcases hrel with ⟨rfl, HV, e0, e1, HK⟩ | ⟨rfl, HV, e0, e1, HK⟩ | ⟨rfl, HV, HK⟩
        · have RR := Lib.hid (HR1.out.kpt HK.out)
          go_wp2_with (at_builtin; refine wp_appendP rfl (.tmp 31) (.tmp 32) rfl W0.heap.size _ _ [] ps wr rfl HV.out rfl RR.out (by simp; omega) HK.out.size ?_; intro v' w' ho' hb'; have HO' := Lib.hid ho'; have HB' : Hid (Kpt W0 w') := Below.trans HK.out hb'; have f0 := (show Kpt W0 w' from HB'.out).cell hc0; have f1 := (show Kpt W0 w' from HB'.out).cell hc1; clear ho' hb')
          go_roundw
          case rel => exact .inr (.inl ⟨rfl, HO'.out, f0, f1, HB'⟩)
          case measure => simp [intOf]
        · have RR := Lib.hid (HR2.out.kpt HK.out)
          go_wp2_with (at_builtin; refine wp_appendP rfl (.tmp 31) (.tmp 32) rfl W0.heap.size _ _ ps qs wr rfl HV.out rfl RR.out hm HK.out.size ?_; intro v' w' ho' hb'; have HO' := Lib.hid ho'; have HB' : Hid (Kpt W0 w') := Below.trans HK.out hb'; clear ho' hb')
          go_roundw
          case rel => exact .inr (.inr ⟨rfl, HO'.out, HB'⟩)
          case measure => simp [intOf]
        · go_wp2
          go_ret
          exact ⟨⟨_, rfl, HV.out⟩, HK.out⟩

end Go.Proofs.YthaahebggboliaaGreat
