/-
  Merged: CycE, CycF.
-/
import Derived.Test.YthaahebggboliaaGreatMps
import Derived.Test.YthaahebggboliaaGreatMcp2
import Derived.Test.YthaahebggboliaaGreatMp3
import Derived.BigRegion
import Derived.Deep.RegionHeld3
-- CycE
namespace Go.Proofs.YthaahebggboliaaGreat
open Go.RowKit Go.Sort Go.Lib
set_option linter.unusedVariables false

/-- the money for a fail -/
def pay2 (f t n : Int) : List (Int × Int × Int) := if n = 0 then [] else [(f, 0, -n), (t, 0, n)]
theorem cpay_in (i f t c p d u x b y P X : Int) (w : World) (hE : failE i f t c p d u x b y = 0) (ho : openV i f t c p d u x b y ≠ 0) (hP : prcB P = true) (hX : 0 ≤ X ∧ X ≤ 10000) :
    Calls Tryz.prog 124 #[.agg #[.int .i64 i, .int .i64 f, .int .i64 t, .int .i64 c, .int .i64 p, .int .i64 d, .int .i64 u, .int .i64 x, .int .i64 b, .int .i64 y], .int .i64 P, .int .i64 X] w fun e w' => ∃ v, e = .returned (.tuple #[.agg #[.int .i64 i, .int .i64 f, .int .i64 t, .int .i64 c, .int .i64 p, .int .i64 d, .int .i64 u, .int .i64 x, .int .i64 b, .int .i64 (y + openV i f t c p d u x b y)], v, .int .i64 0]) ∧ OwnsP w' 0 v (pay2 f t (wthQ (openV i f t c p d u x b y) P X)) ∧ Kpt w w' := by
  have fb := fail_bd hE
  obtain ⟨l, hl⟩ : ∃ l, openV i f t c p d u x b y = l := ⟨_, rfl⟩
  have hov : l = u - x - b - y := by rw [← hl]; unfold openV; rw [if_pos hE]
  have FP : FpIs #[.int .i64 i, .int .i64 f, .int .i64 t, .int .i64 c, .int .i64 p, .int .i64 d, .int .i64 u, .int .i64 x, .int .i64 b, .int .i64 y] #[.int .i64 i, .int .i64 f, .int .i64 t, .int .i64 c, .int .i64 p, .int .i64 d, .int .i64 u, .int .i64 x, .int .i64 b, .int .i64 (y + l)] l 0 :=
    fun w => pay_ok i f t c p d u x b y w l hE hl (by rw [← hl]; exact ho) (by omega) (by omega) (by omega) (by omega)
  rw [hl]
  have hwb : wthB l P X = true := wth_mk ⟨by omega, by omega⟩ hX (prc_t hP)
  have W0 := wt_is l P X
  have e0 : wthE l P X = 0 := if_pos hwb
  rw [e0] at W0
  obtain ⟨b1, b2, b3⟩ := wth_t hwb
  have bd := wth_bd b1 b2 b3
  have cb := cost_bd b1 b3
  have nq : wthQ l P X = wthV l P X := if_pos hwb
  have nb : 0 ≤ wthQ l P X ∧ wthQ l P X ≤ 1152921504606846976 := by rw [nq]; unfold wthV; omega
  by_cases hn : wthQ l P X = 0
  · rw [hn] at W0
    refine (cpay_zero i f t c p d u x b y (y + l) l 0 0 P X FP W0 w).mono ?_
    rintro e w' ⟨rfl, hk⟩
    refine ⟨_, rfl, ?_, hk⟩
    rw [hn]
    exact OwnsP.nil w' 0
  · refine (cpay_ok i f t c p d u x b y (y + l) l 0 _ P X hn nb.1 nb.2 FP W0 w).mono ?_
    rintro e w' ⟨g, rfl, hb, hk⟩
    refine ⟨_, rfl, ?_, hk⟩
    unfold pay2
    rw [if_neg hn]
    exact ⟨rfl, .inr ⟨g, 2, _, rfl, Nat.zero_le _, hb, Nat.le_refl _, by unfold maxLen; decide, rfl, rfl⟩⟩
theorem pay2_pt {f t n : Int} (hf : 0 ≤ f ∧ f ≤ 30) (ht : 0 ≤ t ∧ t ≤ 30) (hn : -1152921504606846976 ≤ n ∧ n ≤ 1152921504606846976) : ∀ q ∈ pay2 f t n, ptB q = true := by
  unfold pay2
  split
  · simp
  · next h =>
    intro q hq
    rcases List.mem_cons.1 hq with rfl | hq
    · exact pt_mk (by simp only; omega)
    · rw [List.mem_singleton] at hq
      subst hq
      exact pt_mk (by simp only; omega)
theorem pay2_len (f t n : Int) : (pay2 f t n).length ≤ 2 := by unfold pay2; split <;> simp
/-- a fail of the call's own put anew -/
theorem own_put {T : TypeId} {w : World} {B g n cp i : Nat} {fs : List (List Int)} {l : List Int} (h : OwnsN 10 T w B (.slice (some ⟨g, 0, none⟩) n cp) fs) (hi : i < fs.length) : OwnsN 10 T (w.setCells g (i * 10) (rowN 10 l)) B (.slice (some ⟨g, 0, none⟩) n cp) (fs.set i l) := by
  rcases h.2 with ⟨e, _⟩ | ⟨k, cap, cur, e, hk, hh, hn, hm, hs, ht⟩
  · cases e
  · simp only [Value.slice.injEq, Option.some.injEq, Addr.mk.injEq] at e
    obtain ⟨⟨rfl, -, -⟩, rfl, rfl⟩ := e
    have hc : ∀ j, j < fs.length * 10 → cur[j]? = (flatN 10 fs)[j]? := fun j hj => by
      rw [← ht, List.getElem?_take_of_lt hj, Array.getElem?_toList]
    refine ⟨by rw [flatN_len], .inr ⟨g, cp, _, by rw [List.length_set], hk, heap_setCells (rowN 10 l) (i * 10) hh, by rw [List.length_set]; exact hn, hm, by rw [putL_size]; exact hs, ?_⟩⟩
    rw [List.length_set]
    apply List.ext_getElem?
    intro j
    by_cases hj : j < fs.length * 10
    · rw [List.getElem?_take_of_lt hj, Array.getElem?_toList, putL_at, rowN_len]
      obtain ⟨q, r, hr, rfl⟩ : ∃ q r, r < 10 ∧ j = q * 10 + r := ⟨j / 10, j % 10, by omega, by omega⟩
      have hq : q < fs.length := by omega
      rw [flatN_at _ q r (by rw [List.length_set]; exact hq) hr]
      by_cases e : q = i
      · subst e
        rw [if_pos (by omega), show q * 10 + r - q * 10 = r by omega, rowN_at l hr]
        rw [List.getD_eq_getElem?_getD (l := fs.set q l), List.getElem?_set, if_pos rfl, if_pos hq]; rfl
      · rw [if_neg (by omega), hc _ hj, flatN_at fs q r hq hr]
        rw [List.getD_eq_getElem?_getD (l := fs.set i l), List.getElem?_set, if_neg (fun e' => e e'.symm), ← List.getD_eq_getElem?_getD]
    · have hl : (putL cur (i * 10) (rowN 10 l)).toList.length = cur.size := by rw [Array.length_toList, putL_size]
      rw [List.getElem?_eq_none (by rw [List.length_take, hl]; omega), List.getElem?_eq_none (by rw [flatN_len, List.length_set]; omega)]

end Go.Proofs.YthaahebggboliaaGreat

-- CycF
namespace Go.Proofs.YthaahebggboliaaGreat
open Go.RowKit Go.Sort Go.Lib
set_option linter.unusedVariables false

/-- a fail that is paid for -/
def payF (l : List Int) : List Int := [l.getD 0 0, l.getD 1 0, l.getD 2 0, l.getD 3 0, l.getD 4 0, l.getD 5 0, l.getD 6 0, l.getD 7 0, l.getD 8 0, l.getD 9 0 + opL l]
/-- the postings for a fail, what it brings -/
def cmL (ps : List Int) (X : Int) (l : List Int) : List (Int × Int × Int) := pay2 (l.getD 1 0) (l.getD 2 0) (wthQ (opL l) (prOf ps l) X)
/-- the error of compensating fails on a book, and the book, the fails and the postings behind it -/
def cmE (W : Int) (hs : List Int) (ts : List (List Int)) (ps : List Int) (X q : Int) : List (List Int) → List (Int × Int × Int) → Int
  | [], _ => 0
  | l :: fs, b => if lkL W hs (tlOf ts l) l q = 0 then (if stL W hs (tlOf ts l) l q = 4 then (if cpoE b (cmL ps X l) = 0 then cmE W hs ts ps X q fs (cpoB b (cmL ps X l)) else cpoE b (cmL ps X l)) else cmE W hs ts ps X q fs b) else lkL W hs (tlOf ts l) l q
def cmB (W : Int) (hs : List Int) (ts : List (List Int)) (ps : List Int) (X q : Int) : List (List Int) → List (Int × Int × Int) → List (Int × Int × Int)
  | [], b => b
  | l :: fs, b => if stL W hs (tlOf ts l) l q = 4 then cmB W hs ts ps X q fs (cpoB b (cmL ps X l)) else cmB W hs ts ps X q fs b
def cmG (W : Int) (hs : List Int) (ts : List (List Int)) (q : Int) (l : List Int) : List Int := if stL W hs (tlOf ts l) l q = 4 then payF l else l
def cmF (W : Int) (hs : List Int) (ts : List (List Int)) (q : Int) (fs : List (List Int)) : List (List Int) := fs.map (cmG W hs ts q)
def cmH (W : Int) (hs : List Int) (ts : List (List Int)) (ps : List Int) (X q : Int) (l : List Int) : List (Int × Int × Int) := if stL W hs (tlOf ts l) l q = 4 then cmL ps X l else []
def cmP (W : Int) (hs : List Int) (ts : List (List Int)) (ps : List Int) (X q : Int) (fs : List (List Int)) : List (Int × Int × Int) := fs.flatMap (cmH W hs ts ps X q)
/-- the fails when so many of them have been looked at -/
def fsK (W : Int) (hs : List Int) (ts : List (List Int)) (q : Int) (fs : List (List Int)) (k : Nat) : List (List Int) := cmF W hs ts q (fs.take k) ++ fs.drop k
theorem takeF_s {fs : List (List Int)} {k : Nat} (h : k < fs.length) : fs.take (k + 1) = fs.take k ++ [fs.getD k []] := by
  have e : fs.getD k [] = fs[k] := by rw [List.getD_eq_getElem?_getD, List.getElem?_eq_getElem h]; rfl
  rw [List.take_succ_eq_append_getElem h, e]
theorem fsK_len (W : Int) (hs : List Int) (ts : List (List Int)) (q : Int) (fs : List (List Int)) (k : Nat) : (fsK W hs ts q fs k).length = fs.length := by
  unfold fsK cmF
  rw [List.length_append, List.length_map, List.length_take, List.length_drop]
  omega
theorem cmF_tl (W : Int) (hs : List Int) (ts : List (List Int)) (q : Int) {fs : List (List Int)} {k : Nat} (h : k < fs.length) : (cmF W hs ts q (fs.take k)).length = k := by
  unfold cmF
  rw [List.length_map, List.length_take]
  omega
theorem fsK_at (W : Int) (hs : List Int) (ts : List (List Int)) (q : Int) {fs : List (List Int)} {k : Nat} (h : k < fs.length) : (fsK W hs ts q fs k).getD k [] = fs.getD k [] := by
  unfold fsK
  have hl := cmF_tl W hs ts q h
  rw [List.getD_eq_getElem?_getD, List.getElem?_append_right (by omega), hl, Nat.sub_self, drop_at h]
  rfl
theorem fsK_s (W : Int) (hs : List Int) (ts : List (List Int)) (q : Int) {fs : List (List Int)} {k : Nat} (h : k < fs.length) : fsK W hs ts q fs (k + 1) = (fsK W hs ts q fs k).set k (cmG W hs ts q (fs.getD k [])) := by
  unfold fsK
  have hl := cmF_tl W hs ts q h
  rw [List.set_append_right _ _ (by omega), hl, Nat.sub_self, drop_at h, List.set_cons_zero]
  unfold cmF
  rw [takeF_s h, List.map_append, List.map_cons, List.map_nil, List.append_assoc]
  rfl
theorem fsK_same {W : Int} {hs : List Int} {ts : List (List Int)} {q : Int} {fs : List (List Int)} {k : Nat} (h : k < fs.length) (hs4 : stL W hs (tlOf ts (fs.getD k [])) (fs.getD k []) q ≠ 4) : fsK W hs ts q fs (k + 1) = fsK W hs ts q fs k := by
  rw [fsK_s W hs ts q h]
  unfold cmG
  rw [if_neg hs4, ← fsK_at W hs ts q h]
  have hk : k < (fsK W hs ts q fs k).length := by rw [fsK_len]; exact h
  rw [List.getD_eq_getElem?_getD, List.getElem?_eq_getElem hk]
  exact List.set_getElem_self hk
theorem fsK_0 (W : Int) (hs : List Int) (ts : List (List Int)) (q : Int) (fs : List (List Int)) : fsK W hs ts q fs 0 = fs := by simp [fsK, cmF]
theorem fsK_n (W : Int) (hs : List Int) (ts : List (List Int)) (q : Int) (fs : List (List Int)) : fsK W hs ts q fs fs.length = cmF W hs ts q fs := by simp [fsK]
theorem cmP_s {W : Int} {hs : List Int} {ts : List (List Int)} {ps : List Int} {X q : Int} {fs : List (List Int)} {k : Nat} (h : k < fs.length) : cmP W hs ts ps X q (fs.take (k + 1)) = cmP W hs ts ps X q (fs.take k) ++ cmH W hs ts ps X q (fs.getD k []) := by
  unfold cmP
  rw [takeF_s h, List.flatMap_append]
  simp
theorem cmP_len (W : Int) (hs : List Int) (ts : List (List Int)) (ps : List Int) (X q : Int) (fs : List (List Int)) : (cmP W hs ts ps X q fs).length ≤ 2 * fs.length := by
  induction fs with
  | nil => simp [cmP]
  | cons l fs ih =>
    have e : cmP W hs ts ps X q (l :: fs) = cmH W hs ts ps X q l ++ cmP W hs ts ps X q fs := by simp [cmP]
    have : (cmH W hs ts ps X q l).length ≤ 2 := by
      unfold cmH cmL
      split
      · exact pay2_len _ _ _
      · simp
    rw [e, List.length_append, List.length_cons]
    omega
theorem cpoP_ok {b l : List (Int × Int × Int)} (h : cpoE b l = 0) : cpoP b l = l := by
  unfold cpoE at h
  unfold cpoP
  split
  · next e => exact e.symm
  · next e =>
    rw [if_neg e] at h
    rw [if_pos h]
theorem below_sc {B g : Nat} {w0 : World} (hg : B ≤ g) : ∀ (vs : List Value) (o : Nat) (w : World), Below B w0 w → Below B w0 (w.setCells g o vs)
  | [], _, _, h => h
  | v :: vs, o, w, h => below_sc hg vs (o + 1) (w.setCell ⟨g, o, none⟩ v) (Below.setCell h hg v)
/-- a fail of a clerk's put anew -/
theorem clerk_put {w : World} {base g gf n cp k : Nat} {T : Int} {bv pv : Value} {fs : List (List Int)} {b p : List (Int × Int × Int)} {l : List Int} (h : ClerkIs w base g T (.slice (some ⟨gf, 0, none⟩) n cp) bv pv fs b p) (hk : k < fs.length) : ClerkIs (w.setCells gf (k * 10) (rowN 10 l)) base g T (.slice (some ⟨gf, 0, none⟩) n cp) bv pv (fs.set k l) b p ∧ (∀ w0, Below base w0 w → Below base w0 (w.setCells gf (k * 10) (rowN 10 l))) ∧ (∀ j cs e, Blk w j cs e → e ≠ 42 → Blk (w.setCells gf (k * 10) (rowN 10 l)) j cs e) := by
  obtain ⟨cur, hb⟩ := row_blk h.of (k := gf) (by simp [Value.ownBlock])
  have hge := (row_ge h.of (k := gf) (by simp [Value.ownBlock])).1
  have hother : ∀ j cs e, Blk w j cs e → e ≠ 42 → Blk (w.setCells gf (k * 10) (rowN 10 l)) j cs e := fun j cs e hj he => by
    have hne : j ≠ gf := fun q => he (by
      subst q
      have a : w.heap[j]? = some (.cells cs e (0, 0)) := hj
      rw [show w.heap[j]? = _ from hb] at a
      cases a; rfl)
    exact (heap_setCells_other w gf (k * 10) (rowN 10 l) j hne).trans hj
  have hrow : ∀ {B : Nat} {v : Value} {m size : Nat} {xs : List Value}, w.ownsRow B 55 size v m xs → (w.setCells gf (k * 10) (rowN 10 l)).ownsRow B 55 size v m xs := fun hr => by
    obtain ⟨h1, h2⟩ := hr
    refine ⟨h1, ?_⟩
    rcases h2 with h2 | ⟨j, cap, cur', rfl, hj, hh, r⟩
    · exact .inl h2
    · exact .inr ⟨j, cap, cur', rfl, hj, hother j cur' _ hh (by decide), r⟩
  exact ⟨⟨h.ge, hother _ _ _ h.blk (by decide), own_put h.of hk, hrow h.ob, hrow h.op, h.ap⟩, fun w0 hw => below_sc hge _ _ _ hw, hother⟩

end Go.Proofs.YthaahebggboliaaGreat
