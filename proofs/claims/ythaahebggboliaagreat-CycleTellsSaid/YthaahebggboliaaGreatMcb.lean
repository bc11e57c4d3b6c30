/-
  Merged: CycB, PostRun, CycC.
-/
import Derived.Test.YthaahebggboliaaGreatMx
import Derived.Test.YthaahebggboliaaGreatMb5
import Derived.Test.YthaahebggboliaaGreatMp3
import Derived.Test.YthaahebggboliaaGreatMr
import Derived.Test.YthaahebggboliaaGreatMb1
-- CycB
namespace Go.Proofs.YthaahebggboliaaGreat
open Go.RowKit Go.Sort Go.Lib
set_option linter.unusedVariables false

theorem row_far {w : World} {base : Nat} {e : TypeId} {size : Nat} {v : Value} {n : Nat} {xs : List Value} (h : w.ownsRow base e size v n xs) {p : Addr} (hp : p.block < base) (u : Value) : (w.setCell p u).ownsRow base e size v n xs := by
  obtain ⟨h1, h2⟩ := h
  refine ⟨h1, ?_⟩
  rcases h2 with h2 | ⟨g, cap, cur, rfl, hg, hh, r⟩
  · exact .inl h2
  · exact .inr ⟨g, cap, cur, rfl, hg, (Below.heap_setCell w p u g (by omega)).trans hh, r⟩
theorem row_base {w : World} {base B : Nat} {e : TypeId} {size : Nat} {v : Value} {n : Nat} {xs : List Value} (h : w.ownsRow base e size v n xs) (hB : B ≤ base) : w.ownsRow B e size v n xs := by
  obtain ⟨h1, h2⟩ := h
  refine ⟨h1, ?_⟩
  rcases h2 with h2 | ⟨g, cap, cur, rfl, hg, hh, r⟩
  · exact .inl h2
  · exact .inr ⟨g, cap, cur, rfl, by omega, hh, r⟩
theorem row_kpt {w w' : World} {base : Nat} {e : TypeId} {size : Nat} {v : Value} {n : Nat} {xs : List Value} (h : w.ownsRow base e size v n xs) (k : Kpt w w') : w'.ownsRow base e size v n xs := by
  obtain ⟨h1, h2⟩ := h
  refine ⟨h1, ?_⟩
  rcases h2 with h2 | ⟨g, cap, cur, rfl, hg, hh, r⟩
  · exact .inl h2
  · exact .inr ⟨g, cap, cur, rfl, hg, (Below.block k g (heap_lt hh)).trans hh, r⟩
/-- a nil slice has no room -/
def NilC (v : Value) : Prop := ∀ n cap, v = .slice none n cap → cap = 0
theorem row_nil {w : World} {base : Nat} {e : TypeId} {size : Nat} {v : Value} {n : Nat} {xs : List Value} (h : w.ownsRow base e size v n xs) : NilC v := by
  rintro m cap rfl
  rcases h.2 with ⟨e, -⟩ | ⟨g, cap', cur, e, -⟩
  · injection e
  · injection e with e _ _; cases e

theorem eqP_nil (w : World) : (binOp .eql 29 (.slice none 0 0) (.slice none 0 0)).run Tryz.prog w = .ok (.bool true) w := by kernel_rfl
theorem eqP_some (x : Addr) (n cap : Nat) (w : World) : (binOp .eql 29 (.slice (some x) n cap) (.slice none 0 0)).run Tryz.prog w = .ok (.bool false) w := by kernel_rfl
theorem OwnsP.empty (w : World) (B : Nat) (h : B ≤ w.heap.size) : OwnsP (w.alloc (.cells #[] 55)) B (.slice (some ⟨w.heap.size, 0, none⟩) 0 0) [] :=
  ⟨rfl, .inr ⟨w.heap.size, 0, #[], rfl, h, heap_alloc_new w _, Nat.le_refl _, Nat.zero_le _, by simp, rfl⟩⟩
theorem cloneP_nil (w : World) : Calls Tryz.prog 86 #[.slice none 0 0] w fun e w' => e = .returned (.slice none 0 0) ∧ w' = w := by
  have q := eqP_nil
  go_enter Tryz.func86, Tryz.ntmps86
  go_wp2
  go_ret
  exact ⟨rfl, rfl⟩
theorem cloneP_zero (x : Addr) (cap : Nat) (w : World) : Calls Tryz.prog 86 #[.slice (some x) 0 cap] w fun e w' => ∃ v, e = .returned v ∧ OwnsP w' w.heap.size v [] ∧ Kpt w w' := by
  have O0 := Lib.hid (OwnsP.empty w w.heap.size (Nat.le_refl _))
  have k1 : Hid (Kpt w (w.alloc (.cells #[] 55))) := (Kpt.refl w).alloc _
  have q := fun w => eqP_some x 0 cap w
  have L0 : ∀ w : World, (loadCellsFrom x 0 0 #[]).run Tryz.prog w = .ok #[] w := fun w => rfl
  have S0 : ∀ w : World, (storeCells ⟨w.heap.size, 0, none⟩ []).run Tryz.prog w = .ok () w := fun w => rfl
  have S1 : (storeCells ⟨w.heap.size, 0, none⟩ []).run Tryz.prog (w.alloc (.cells #[] 55)) = .ok () (w.alloc (.cells #[] 55)) := rfl
  go_enter Tryz.func86, Tryz.ntmps86
  go_wp2
  go_ret
  exact ⟨_, rfl, O0.out, k1.out⟩
theorem cloneP_any (v : Value) (ps : List (Int × Int × Int)) (w : World) (h : ReadsP w v ps) (hm : ps.length ≤ 100000) :
    Calls Tryz.prog 86 #[v] w fun e w' => ∃ u, e = .returned u ∧ OwnsP w' w.heap.size u ps ∧ Kpt w w' := by
  by_cases h0 : 0 < ps.length
  · refine (clone_run v ps w h h0 hm).mono ?_
    rintro e w' ⟨blk, cap, rfl, ho, hk⟩
    exact ⟨_, rfl, ho, hk⟩
  · obtain rfl : ps = [] := List.eq_nil_of_length_eq_zero (by omega)
    obtain ⟨a, cap, rfl, hn, -⟩ := h
    cases a with
    | none =>
      obtain rfl := hn rfl
      refine (cloneP_nil w).mono ?_
      rintro e w' ⟨rfl, rfl⟩
      exact ⟨_, rfl, OwnsP.nil _ _, Kpt.refl _⟩
    | some x => exact cloneP_zero x cap w

set_option maxHeartbeats 2000000 in
theorem engage_bad (T E : Int) (fv bv : Value) (w : World) (hE : E ≠ 0) (h1 : ∃ a n cap, fv = .slice a n cap) (h2 : ∃ a n cap, bv = .slice a n cap)
    (WC : ∀ w', Kpt w w' → Calls Tryz.prog 16 #[.agg #[.int .i64 T, fv, bv]] w' fun e w'' => e = .returned (.int .i64 E) ∧ Kpt w' w'') :
    Calls Tryz.prog 37 #[.agg #[.int .i64 T, fv, bv]] w fun e w' => e = .returned (.tuple #[.pointer none, .int .i64 E]) ∧ Kpt w w' := by
  have WC := Lib.hid WC
  have K0 : Hid (Kpt w (w.alloc (.cells #[.int .i64 T, fv, bv] 31))) := (Kpt.refl w).alloc _
  have z0 : (E != 0) = true := bne_iff_ne.2 hE
  obtain ⟨a, n, cap, rfl⟩ := h1
  obtain ⟨a2, n2, cap2, rfl⟩ := h2
  clear hE
  go_enter Tryz.func37, Tryz.ntmps37
  go_wp2_with (go_at_call 16; (with_reducible refine (WC.out _ K0.out).mono ?_); rintro x w1 ⟨rfl, kk⟩; have K1 := Lib.hid (ktr K0.out kk); clear kk)
  go_ret2
  exact ⟨rfl, K1.out⟩
/-- a clerk that the call has made: its cells, and what they name -/
structure ClerkIs (w : World) (base g : Nat) (T : Int) (fv bv pv : Value) (fs : List (List Int)) (b p : List (Int × Int × Int)) : Prop where
  ge : base ≤ g
  blk : Blk w g #[.int .i64 T, fv, bv, pv] 75
  of : OwnsN 10 42 w base fv fs
  ob : OwnsP w base bv b
  op : OwnsP w base pv p
  ap : Apart pv bv
theorem eng_is {w w3 : World} {B2 B3 : Nat} {T : Int} {fv bv : Value} {fs : List (List Int)} {b : List (Int × Int × Int)} (k : Kpt w w3) (h2 : w.heap.size < B2) (h3 : w.heap.size < B3) (o2 : OwnsN 10 42 w3 B2 fv fs) (o3 : OwnsP w3 B3 bv b) :
    ClerkIs (((w3.setCell ⟨w.heap.size, 1, none⟩ fv).setCell ⟨w.heap.size, 2, none⟩ bv).alloc (.cells #[.int .i64 T, fv, bv, .slice none 0 0] 75)) w.heap.size w3.heap.size T fv bv (.slice none 0 0) fs b [] ∧
      Kpt w (((w3.setCell ⟨w.heap.size, 1, none⟩ fv).setCell ⟨w.heap.size, 2, none⟩ bv).alloc (.cells #[.int .i64 T, fv, bv, .slice none 0 0] 75)) := by
  refine ⟨⟨k.size, ?_, ?_, ?_, ?_, .inl rfl⟩, (Kpt.setCell (Kpt.setCell k (Nat.le_refl _) _) (Nat.le_refl _) _).alloc _⟩
  · have := Blk.made ((w3.setCell ⟨w.heap.size, 1, none⟩ fv).setCell ⟨w.heap.size, 2, none⟩ bv) #[.int .i64 T, fv, bv, .slice none 0 0] 75
    rwa [World.size_setCell, World.size_setCell] at this
  · exact row_kpt (row_base (row_far (row_far o2 h2 _) h2 _) (Nat.le_of_lt h2)) ((Kpt.refl _).alloc _)
  · exact row_kpt (row_base (row_far (row_far o3 h3 _) h3 _) (Nat.le_of_lt h3)) ((Kpt.refl _).alloc _)
  · exact OwnsP.nil _ _
set_option maxRecDepth 100000 in
set_option maxHeartbeats 4000000 in
theorem engage_ok (T : Int) (fv bv : Value) (fs : List (List Int)) (b : List (Int × Int × Int)) (w : World) (hF : ReadsF w fv fs) (hn : NilC fv) (hb : ReadsP w bv b) (hE : wldE T fs b = 0) :
    Calls Tryz.prog 37 #[.agg #[.int .i64 T, fv, bv]] w fun e w' => ∃ g fv' bv', e = .returned (.tuple #[.pointer (some ⟨g, 0, none⟩), .int .i64 0]) ∧ ClerkIs w' w.heap.size g T fv' bv' (.slice none 0 0) fs b [] ∧ Kpt w w' := by
  have WC := Lib.hid (fun w' (k : Kpt w w') => wcheck_run T fv bv fs b w' (hF.kpt k) (hb.kpt k))
  rw [hE] at WC
  obtain ⟨-, hf, hl⟩ := wld_0 hE
  have h60 := (checksE_0 hf).1
  have h400 := (lin_0 hl).1
  obtain ⟨a, cap, e, -⟩ := id hF
  subst e
  have CF := Lib.hid (fun w' (k : Kpt w w') => cloneF_any a cap fs w' (hF.kpt k) h60 (fun e => hn _ cap (by rw [e])))
  have CP := Lib.hid (fun w' (k : Kpt w w') => cloneP_any bv b w' (hb.kpt k) (by omega))
  obtain ⟨a2, cap2, e, -⟩ := id hb
  subst e
  have K0 : Hid (Kpt w (w.alloc (.cells #[.int .i64 T, .slice a fs.length cap, .slice a2 b.length cap2] 31))) := (Kpt.refl w).alloc _
  have B0 : Hid (Blk (w.alloc (.cells #[.int .i64 T, .slice a fs.length cap, .slice a2 b.length cap2] 31)) w.heap.size #[.int .i64 T, .slice a fs.length cap, .slice a2 b.length cap2] 31) := Blk.made _ _ _
  clear hE hF hb hn hf hl
  go_enter Tryz.func37, Tryz.ntmps37
  go_upto_region 4 with (go_at_call 16; (with_reducible refine (WC.out _ K0.out).mono ?_); rintro x w1 ⟨rfl, kk⟩; have K1 := Lib.hid (ktr K0.out kk); have B1 := Lib.hid (B0.out.kpt kk); clear kk)
  have c0 : World.cell? w1 ⟨w.heap.size, 0, none⟩ = some (.int .i64 T) := B1.out.cell 0
  have c1 : World.cell? w1 ⟨w.heap.size, 1, none⟩ = some (.slice a fs.length cap) := B1.out.cell 1
  have c2 : World.cell? w1 ⟨w.heap.size, 2, none⟩ = some (.slice a2 b.length cap2) := B1.out.cell 2
  have KD : Hid (Kpt w w1.drew) := Below.drew K1.out
  have BD : Hid (Blk w1.drew w.heap.size #[.int .i64 T, .slice a fs.length cap, .slice a2 b.length cap2] 31) := B1.out.kpt (Below.drew (Kpt.refl w1))
  go_region_with (first
    | (go_at_call 85; (with_reducible refine (CF.out _ KD.out).mono ?_); rintro x w2 ⟨v2, rfl, o2, kk⟩; obtain ⟨a3, n3, cap3, rfl, hn3⟩ := o2.form; have O2 := Lib.hid o2; have L2 : Hid (w.heap.size < w1.drew.heap.size) := (B1.out.kpt (Below.drew (Kpt.refl w1))).lt; clear o2; have KD := Lib.hid (ktr KD.out kk); have BD := Lib.hid (BD.out.kpt kk); have d0 : World.cell? w2 ⟨w.heap.size, 0, none⟩ = some (.int .i64 T) := BD.out.cell 0; have d1 : World.cell? w2 ⟨w.heap.size, 1, none⟩ = some (.slice a fs.length cap) := BD.out.cell 1; have d2 : World.cell? w2 ⟨w.heap.size, 2, none⟩ = some (.slice a2 b.length cap2) := BD.out.cell 2; have d4 : World.frozen? w2 ⟨w.heap.size, 1, none⟩ = false := Blk.frozen BD.out 1; have d5 : World.frozen? w2 ⟨w.heap.size, 2, none⟩ = false := Blk.frozen BD.out 2)
    | (go_at_call 86; (with_reducible refine (CP.out _ KD.out).mono ?_); rintro x w3 ⟨v3, rfl, o3, kk⟩; obtain ⟨a4, cap4, rfl⟩ := OwnsP.form o3; have O3 := Lib.hid o3; have O2 := Lib.hid (row_kpt O2.out kk); have L3 : Hid (w.heap.size < w2.heap.size) := BD.out.lt; clear o3; have KD := Lib.hid (ktr KD.out kk); have BD := Lib.hid (BD.out.kpt kk); have e0 : World.cell? w3 ⟨w.heap.size, 0, none⟩ = some (.int .i64 T) := BD.out.cell 0; have e1 : World.cell? w3 ⟨w.heap.size, 1, none⟩ = some (.slice a fs.length cap) := BD.out.cell 1; have e2 : World.cell? w3 ⟨w.heap.size, 2, none⟩ = some (.slice a2 b.length cap2) := BD.out.cell 2; have e4 : World.frozen? w3 ⟨w.heap.size, 1, none⟩ = false := Blk.frozen BD.out 1; have e5 : World.frozen? w3 ⟨w.heap.size, 2, none⟩ = false := Blk.frozen BD.out 2))
  all_goals
    go_wp2
    go_ret2
    exact ⟨_, _, _, rfl, eng_is KD.out L2.out L3.out O2.out O3.out⟩

end Go.Proofs.YthaahebggboliaaGreat

-- PostRun
namespace Go.Proofs.YthaahebggboliaaGreat
open Go.RowKit Go.Sort Go.Lib
set_option linter.unusedVariables false

theorem pst_is {b l R : List (Int × Int × Int)} {E : Int} (h : PostRes b l R E) : E = pstE b l ∧ R = pstR b l := by
  rcases h with ⟨h, rfl, rfl⟩ | ⟨h0, h, rfl, rfl⟩ | ⟨h0, h1, h⟩
  · have e : pstE b l = linE b := by unfold pstE; rw [if_neg h]
    exact ⟨e.symm, by unfold pstR; rw [e, if_neg h]⟩
  · have e : pstE b l = chkE l := by unfold pstE; rw [if_pos h0, if_neg h]
    exact ⟨e.symm, by unfold pstR; rw [e, if_neg h]⟩
  · rcases h with ⟨rfl, rfl, a, u, hf⟩ | ⟨ha, L, hL, h⟩
    · have e : pstE b l = 8 := by
        unfold pstE
        rw [if_pos h0, if_pos h1, if_neg]
        intro hq
        rw [allA_t (both_pt h0 h1) hq] at hf
        cases hf
      exact ⟨e.symm, by unfold pstR; rw [e, if_neg (by decide)]⟩
    · obtain rfl : L = mrgL (b ++ l) := book_ext hL (mrg_book ha) fun _ _ => rfl
      rcases h with ⟨h, rfl, rfl⟩ | ⟨h, rfl, rfl⟩
      · have e : pstE b l = 2 := by unfold pstE; rw [if_pos h0, if_pos h1, if_pos (allA_f ha), if_pos h]
        exact ⟨e.symm, by unfold pstR; rw [e, if_neg (by decide)]⟩
      · have e : pstE b l = 0 := by unfold pstE; rw [if_pos h0, if_pos h1, if_pos (allA_f ha), if_neg (by omega)]
        exact ⟨e.symm, by unfold pstR; rw [if_pos e]⟩
theorem post_fn (v u : Value) (b l : List (Int × Int × Int)) (w : World) (hb : ReadsP w v b) (hl : ReadsP w u l) :
    Calls Tryz.prog 65 #[v, u] w fun e w' => ∃ dv, e = .returned (.tuple #[dv, .int .i64 (pstE b l)]) ∧ OwnsP w' w.heap.size dv (pstR b l) ∧ Kpt w w' := by
  refine (post_any v u b l w hb hl).mono ?_
  rintro e w' ⟨hk, R, E, dv, hp, ho, rfl⟩
  obtain ⟨rfl, rfl⟩ := pst_is hp
  exact ⟨dv, rfl, ho, hk⟩

end Go.Proofs.YthaahebggboliaaGreat

-- CycC
namespace Go.Proofs.YthaahebggboliaaGreat
open Go.RowKit Go.Sort Go.Lib
set_option linter.unusedVariables false

/-- the error of posting what belongs together, the book behind it, and what is kept of it -/
def cpoE (b l : List (Int × Int × Int)) : Int := if l = [] then 0 else pstE b l
def cpoB (b l : List (Int × Int × Int)) : List (Int × Int × Int) := if l = [] then b else if pstE b l = 0 then pstR b l else b
def cpoP (b l : List (Int × Int × Int)) : List (Int × Int × Int) := if l = [] then [] else if pstE b l = 0 then l else []
/-- all blocks that hold neither a clerk nor postings stand -/
def KpX (w w' : World) : Prop := w.heap.size ≤ w'.heap.size ∧ ∀ k cs e, Blk w k cs e → e ≠ 75 → e ≠ 55 → Blk w' k cs e
theorem KpX.refl (w : World) : KpX w w := ⟨Nat.le_refl _, fun _ _ _ h _ _ => h⟩
theorem KpX.trans {a b c : World} (h : KpX a b) (k : KpX b c) : KpX a c := ⟨Nat.le_trans h.1 k.1, fun i cs e hb h1 h2 => k.2 i cs e (h.2 i cs e hb h1 h2) h1 h2⟩
theorem Kpt.x {w w' : World} (h : Kpt w w') : KpX w w' := ⟨h.size, fun k cs e hb _ _ => hb.kpt h⟩
theorem KpX.set {w w' : World} (h : KpX w w') {g : Nat} {cs : Array Value} (hb : Blk w' g cs 75) (o : Nat) (u : Value) : KpX w (w'.setCell ⟨g, o, none⟩ u) :=
  ⟨by rw [World.size_setCell]; exact h.1, fun k ds e hk h1 h2 => Blk.away (h.2 k ds e hk h1 h2) (p := ⟨g, o, none⟩) (fun q => h1 (by
    have q' : k = g := q
    subst q'
    have a : w'.heap[k]? = some (.cells ds e (0, 0)) := h.2 k ds e hk h1 h2
    rw [show w'.heap[k]? = _ from hb] at a
    cases a; rfl)) u⟩
theorem row_away {w : World} {base : Nat} {e e' : TypeId} {size : Nat} {v : Value} {n : Nat} {xs : List Value} (h : w.ownsRow base e size v n xs) {b : Nat} {cs : Array Value} (hb : Blk w b cs e') (hT : e ≠ e') (o : Nat) (u : Value) : (w.setCell ⟨b, o, none⟩ u).ownsRow base e size v n xs := by
  obtain ⟨h1, h2⟩ := h
  refine ⟨h1, ?_⟩
  rcases h2 with h2 | ⟨k, cap, cur, rfl, hk, hh, r⟩
  · exact .inl h2
  · refine .inr ⟨k, cap, cur, rfl, hk, ?_, r⟩
    exact Blk.away (show Blk w k cur e from hh) (p := ⟨b, o, none⟩) (fun q => hT (by
      have q' : k = b := q
      subst q'
      have a : w.heap[k]? = some (.cells cs e' (0, 0)) := hb
      rw [hh] at a
      cases a; rfl)) u
theorem row_other {w w' : World} {base : Nat} {e : TypeId} {size : Nat} {v : Value} {n : Nat} {xs : List Value} {row : Option Nat} (h : w.ownsRow base e size v n xs) (g : w.grownBy w' row) (hr : v.ownBlock = none ∨ v.ownBlock ≠ row) : w'.ownsRow base e size v n xs := by
  obtain ⟨h1, h2⟩ := h
  refine ⟨h1, ?_⟩
  rcases h2 with h2 | ⟨k, cap, cur, rfl, hk, hh, r⟩
  · exact .inl h2
  · refine .inr ⟨k, cap, cur, rfl, hk, (g.block k (heap_lt hh) ?_).trans hh, r⟩
    rcases hr with hr | hr
    · simp [Value.ownBlock] at hr
    · simpa [Value.ownBlock] using hr
theorem row_blk {w : World} {base : Nat} {e : TypeId} {size : Nat} {v : Value} {n : Nat} {xs : List Value} (h : w.ownsRow base e size v n xs) {k : Nat} (hk : v.ownBlock = some k) : ∃ cur, Blk w k cur e := by
  rcases h.2 with ⟨rfl, _⟩ | ⟨g, cap, cur, rfl, hg, hh, _⟩
  · simp [Value.ownBlock] at hk
  · simp [Value.ownBlock] at hk; subst hk; exact ⟨cur, hh⟩
theorem row_ge {w : World} {base : Nat} {e : TypeId} {size : Nat} {v : Value} {n : Nat} {xs : List Value} (h : w.ownsRow base e size v n xs) {k : Nat} (hk : v.ownBlock = some k) : base ≤ k ∧ k < w.heap.size := by
  rcases h.2 with ⟨rfl, _⟩ | ⟨g, cap, cur, rfl, hg, hh, _⟩
  · simp [Value.ownBlock] at hk
  · simp [Value.ownBlock] at hk; subst hk; exact ⟨hg, heap_lt hh⟩
/-- a block of another type stands when a row grows -/
theorem blk_grown {w w' : World} {base : Nat} {e e' : TypeId} {size : Nat} {v : Value} {n : Nat} {xs : List Value} (h : w.ownsRow base e size v n xs) (g : w.grownBy w' v.ownBlock) {k : Nat} {cs : Array Value} (hb : Blk w k cs e') (hT : e' ≠ e) : Blk w' k cs e' :=
  (g.block k hb.lt (fun q => by
    obtain ⟨cur, hc⟩ := row_blk h q.symm
    have a : w.heap[k]? = some (.cells cs e' (0, 0)) := hb
    rw [show w.heap[k]? = _ from hc] at a
    cases a; exact hT rfl)).trans hb
/-- two rows of different types have no block together -/
theorem row_types {w : World} {base base' : Nat} {e e' : TypeId} {size size' : Nat} {u v : Value} {n n' : Nat} {xs xs' : List Value} (h : w.ownsRow base e size u n xs) (h' : w.ownsRow base' e' size' v n' xs') (hT : e ≠ e') : u.ownBlock = none ∨ u.ownBlock ≠ v.ownBlock := by
  cases hu : u.ownBlock with
  | none => exact .inl rfl
  | some k =>
    refine .inr fun q => ?_
    obtain ⟨c1, h1⟩ := row_blk h hu
    obtain ⟨c2, h2⟩ := row_blk h' q.symm
    have a : w.heap[k]? = some (.cells c1 e (0, 0)) := h1
    rw [show w.heap[k]? = _ from h2] at a
    cases a; exact hT rfl
/-- append of postings that are read to a slice of the call's own: whose block it is -/
theorem wp_appendC {ops : Array Oper} {rest : List Oper} {o : Oper} {a : Act} {Q : Exit → Act → World → Prop} (hgd : o.guard = none) (s x : Operand)
    (ho : o.op = .call { callee := .builtin .append, args := #[s, x], argTypes := #[29, 29] })
    (base : Nat) (v : Value) (ad : Addr) (n cap : Nat) (ps qs : List (Int × Int × Int)) (w : World) (hs : a.eval s = v) (hown : OwnsP w base v ps) (hx : a.eval x = .slice (some ad) n cap) (hr : ReadsP w (.slice (some ad) n cap) qs) (h0 : 0 < n)
    (hlen : ps.length + qs.length ≤ 100000) (hbase : base ≤ w.heap.size)
    (h : ∀ g' cap' w', OwnsP w' base (.slice (some ⟨g', 0, none⟩) (ps ++ qs).length cap') (ps ++ qs) → w.grownBy w' v.ownBlock → (v.ownBlock = some g' ∨ g' = w.heap.size) → wpList Tryz.prog ops Q rest (a.put o.dst (.slice (some ⟨g', 0, none⟩) (ps ++ qs).length cap')) w') : wpList Tryz.prog ops Q (o :: rest) a w := by
  obtain ⟨i0, hi, hz0, hz1, hz2⟩ := info_parts Tryz.infoPost
  have hn : qs.length = n := hr.slice
  subst hn
  obtain ⟨ad', cap', e, -, hm, hb, hc⟩ := hr
  injection e with e1 _ _
  subst e1
  refine wpList_append_lies _ hgd s x 29 ho base 55 i0 _ 3 24 Tryz.underlying29 hi hz0 hz1 hz2 rfl (by decide) v _ _ hs hown ad qs.length cap (flatP qs) hx (flatP_len qs) ?_ (flatP_one qs) h0 ?_ ?_ hbase w.heap.size rfl ?_
  · intro j u hu
    have hj : j < qs.length * 3 := by
      have := (List.getElem?_eq_some_iff.1 hu).1
      rwa [flatP_len] at this
    obtain ⟨q, r, hr, rfl⟩ : ∃ q r, r < 3 ∧ j = q * 3 + r := ⟨j / 3, j % 3, by omega, by omega⟩
    have hq : q < qs.length := by omega
    obtain ⟨b, off, e, h1, h2, h3⟩ := hc q hq
    have e' := Option.some.inj e
    clear hb
    subst e'
    obtain ⟨e0, e1, e2⟩ := flatP_at qs q hq
    have ea : (⟨b, off, none⟩ : Addr).add (q * 3 + r) = ⟨b, off + q * 3 + r, none⟩ := by simp [Addr.add, Nat.add_assoc]
    rw [ea]
    rcases (show r = 0 ∨ r = 1 ∨ r = 2 by omega) with rfl | rfl | rfl
    · rw [Nat.add_zero] at hu ⊢; rw [e0] at hu; rw [← hu]; exact h1
    · rw [e1] at hu; rw [← hu]; exact h2
    · rw [e2] at hu; rw [← hu]; exact h3
  · unfold maxLen; omega
  · omega
  · intro g' cap' w' h1 h2 h3 h4
    have h5 := h g' cap' w'
    unfold OwnsP at h5
    rw [List.length_append, flatP_append] at h5
    exact h5 h1 h2 h3
/-- what post leaves -/
theorem cpost_is {w w1 w2 : World} {base g : Nat} {T : Int} {fv bv pv dv : Value} {fs : List (List Int)} {b p l R : List (Int × Int × Int)} {g' n cap' : Nat} (hC : ClerkIs w base g T fv bv pv fs b p) (k1 : Kpt w w1) (od : OwnsP w1 w.heap.size dv R)
    (hn : n = (p ++ l).length) (o2 : OwnsP w2 base (.slice (some ⟨g', 0, none⟩) n cap') (p ++ l)) (gr : w1.grownBy w2 pv.ownBlock) (at' : pv.ownBlock = some g' ∨ g' = w1.heap.size) :
    ClerkIs ((w2.setCell ⟨g, 2, none⟩ dv).setCell ⟨g, 3, none⟩ (.slice (some ⟨g', 0, none⟩) n cap')) base g T fv dv (.slice (some ⟨g', 0, none⟩) n cap') fs R (p ++ l) ∧ Below base w ((w2.setCell ⟨g, 2, none⟩ dv).setCell ⟨g, 3, none⟩ (.slice (some ⟨g', 0, none⟩) n cap')) ∧ KpX w ((w2.setCell ⟨g, 2, none⟩ dv).setCell ⟨g, 3, none⟩ (.slice (some ⟨g', 0, none⟩) n cap')) := by
  subst hn
  have op1 : OwnsP w1 base pv p := row_kpt hC.op k1
  have hg : g < w.heap.size := hC.blk.lt
  have hb : base ≤ w.heap.size := Nat.le_of_lt (Nat.lt_of_le_of_lt hC.ge hg)
  have b2 : Blk w2 g #[.int .i64 T, fv, bv, pv] 75 := blk_grown op1 gr (hC.blk.kpt k1) (by decide)
  have b3 : Blk (w2.setCell ⟨g, 2, none⟩ dv) g #[.int .i64 T, fv, dv, pv] 75 := Blk.put b2 2 dv
  have b4 : Blk ((w2.setCell ⟨g, 2, none⟩ dv).setCell ⟨g, 3, none⟩ (.slice (some ⟨g', 0, none⟩) (p ++ l).length cap')) g #[.int .i64 T, fv, dv, .slice (some ⟨g', 0, none⟩) (p ++ l).length cap'] 75 := Blk.put b3 3 _
  have of1 : OwnsN 10 42 w1 base fv fs := row_kpt hC.of k1
  have of2 : OwnsN 10 42 w2 base fv fs := row_other of1 gr (row_types of1 op1 (by decide))
  have apd : dv.ownBlock = none ∨ dv.ownBlock ≠ pv.ownBlock := by
    cases hd : dv.ownBlock with
    | none => exact .inl rfl
    | some k =>
      refine .inr fun q => ?_
      have h1 := (row_ge od hd).1
      have h2 := (row_ge hC.op q.symm).2
      omega
  have od2 : OwnsP w2 w.heap.size dv R := row_other od gr apd
  have bel : Below base w w2 := (k1.mono hb).grown gr (Nat.le_trans hb k1.size) (fun k hk => (row_ge op1 hk).1)
  refine ⟨⟨hC.ge, b4, ?_, ?_, ?_, ?_⟩, ?_, ?_⟩
  · exact row_away (row_away of2 b2 (by decide) _ _) b3 (by decide) _ _
  · exact row_base (row_away (row_away od2 b2 (by decide) _ _) b3 (by decide) _ _) hb
  · exact row_away (row_away o2 b2 (by decide) _ _) b3 (by decide) _ _
  · refine .inr fun q => ?_
    have e1 : dv.ownBlock = some g' := q.symm
    rcases at' with h | h
    · rcases apd with h' | h'
      · rw [h'] at e1; cases e1
      · exact h' (e1.trans h.symm)
    · have := (row_ge od e1).2
      omega
  · exact Below.setCell (Below.setCell bel hC.ge _) hC.ge _
  · exact KpX.set (KpX.set ((Kpt.x k1).trans ⟨gr.size, fun k cs e hk h1 h2 => blk_grown op1 gr hk h2⟩) b2 2 _) b3 3 _

set_option maxHeartbeats 2000000 in
theorem cpost_none (g : Nat) (a : Option Addr) (cap : Nat) (w : World) :
    Calls Tryz.prog 109 #[.pointer (some ⟨g, 0, none⟩), .slice a 0 cap] w fun e w' => e = .returned (.int .i64 0) ∧ w = w' := by
  go_enter Tryz.func109, Tryz.ntmps109
  go_wp2
  go_ret
  exact ⟨rfl, rfl⟩
set_option maxHeartbeats 2000000 in
theorem cpost_bad (g n cap E : Nat) (T : Int) (fv bv pv : Value) (a : Option Addr) (b l : List (Int × Int × Int)) (w : World) (hB : Blk w g #[.int .i64 T, fv, bv, pv] 75) (hb : ReadsP w bv b) (hl : ReadsP w (.slice a n cap) l) (h0 : 0 < n) (hE : pstE b l ≠ 0) :
    Calls Tryz.prog 109 #[.pointer (some ⟨g, 0, none⟩), .slice a n cap] w fun e w' => e = .returned (.int .i64 (pstE b l)) ∧ Kpt w w' := by
  have PF := Lib.hid (post_fn bv (.slice a n cap) b l w hb hl)
  have c2 : w.cell? ⟨g, 2, none⟩ = some bv := hB.cell 2
  obtain ⟨ab, capb, rfl, -⟩ := id hb
  have y0 : ((n : Int) == 0) = false := by rw [beq_eq_false_iff_ne]; omega
  have z0 : (pstE b l != 0) = true := bne_iff_ne.2 hE
  clear hE hB hb hl h0
  generalize pstE b l = X at *
  go_enter Tryz.func109, Tryz.ntmps109
  go_wp2_with (go_at_call 65; (with_reducible refine PF.out.mono ?_); rintro x w1 ⟨dv, rfl, od, kk⟩; obtain ⟨a3, cap3, rfl⟩ := OwnsP.form od; have K1 := Lib.hid kk; clear od kk)
  go_ret
  exact ⟨rfl, K1.out⟩
set_option maxRecDepth 100000 in
set_option maxHeartbeats 4000000 in
theorem cpost_ok (base g n cap : Nat) (T : Int) (fv bv pv : Value) (a : Option Addr) (fs : List (List Int)) (b p l : List (Int × Int × Int)) (w : World) (hC : ClerkIs w base g T fv bv pv fs b p) (hb : ReadsP w bv b) (hl : ReadsP w (.slice a n cap) l) (h0 : 0 < n) (hp : p.length + l.length ≤ 100000) (hE : pstE b l = 0) :
    Calls Tryz.prog 109 #[.pointer (some ⟨g, 0, none⟩), .slice a n cap] w fun e w' => ∃ bv' pv', e = .returned (.int .i64 0) ∧ ClerkIs w' base g T fv bv' pv' fs (pstR b l) (p ++ l) ∧ Below base w w' ∧ KpX w w' := by
  have PF := Lib.hid (post_fn bv (.slice a n cap) b l w hb hl)
  rw [hE] at PF
  have c2 : w.cell? ⟨g, 2, none⟩ = some bv := hC.blk.cell 2
  have HC := Lib.hid hC
  have HL := Lib.hid hl
  have HP := Lib.hid hp
  obtain ⟨ab, capb, rfl, -⟩ := id hb
  obtain ⟨ap, capp, rfl⟩ := OwnsP.form hC.op
  have y0 : ((n : Int) == 0) = false := by rw [beq_eq_false_iff_ne]; omega
  have H0 := Lib.hid h0
  have hn : n = l.length := hl.slice.symm
  have LN := Lib.hid hn
  clear hE hC hb hl hp hn
  obtain ⟨ad, rfl⟩ : ∃ ad, a = some ad := by
    obtain ⟨a', cap', e, -, -, -, hc⟩ := HL.out
    injection e with e1 e2 _
    obtain ⟨b', off', e', -⟩ := hc 0 (by have := LN.out; omega)
    exact ⟨_, e1.trans e'⟩
  have BS : Hid (base ≤ w.heap.size) := Nat.le_of_lt (Nat.lt_of_le_of_lt HC.out.ge HC.out.blk.lt)
  clear H0
  go_enter Tryz.func109, Tryz.ntmps109
  go_wp2_with (first
    | (go_at_call 65; (with_reducible refine PF.out.mono ?_); rintro x w1 ⟨dv, rfl, od, kk⟩; obtain ⟨a3, cap3, rfl⟩ := OwnsP.form od; have OD := Lib.hid od; have K1 := Lib.hid kk; have B1 := Lib.hid (HC.out.blk.kpt kk); have c3 : World.cell? w1 ⟨g, 3, none⟩ = some (.slice ap p.length capp) := B1.out.cell 3; have HL1 := Lib.hid (HL.out.kpt kk); have OP1 : Hid (OwnsP w1 base (.slice ap p.length capp) p) := row_kpt HC.out.op kk; have BS1 : Hid (base ≤ w1.heap.size) := Nat.le_trans BS.out (Below.size kk); clear od kk)
    | (at_builtin; refine wp_appendC rfl (.tmp 29) (.tmp 30) rfl base _ ad n cap p l _ rfl OP1.out rfl HL1.out (by omega) HP.out BS1.out ?_; intro g' cap' w2 o2 gr at2; have O2 := Lib.hid o2; have GR := Lib.hid gr; have AT := Lib.hid at2; have B2 : Hid (Blk w2 g #[.int .i64 T, fv, .slice ab b.length capb, .slice ap p.length capp] 75) := blk_grown OP1.out gr B1.out (by decide); have f2 : World.frozen? w2 ⟨g, 2, none⟩ = false := Blk.frozen B2.out 2; have f3 : World.frozen? w2 ⟨g, 3, none⟩ = false := Blk.frozen B2.out 3; have e2 : World.cell? w2 ⟨g, 2, none⟩ = some (.slice ab b.length capb) := B2.out.cell 2; have e3 : World.cell? w2 ⟨g, 3, none⟩ = some (.slice ap p.length capp) := B2.out.cell 3; obtain ⟨m, hm⟩ : ∃ m, m = (p ++ l).length := ⟨_, rfl⟩; rw [← hm] at O2 ⊢; have HM := Lib.hid hm; clear hm o2 gr at2))
  go_ret
  exact ⟨_, _, rfl, cpost_is HC.out K1.out OD.out HM.out O2.out GR.out AT.out⟩

end Go.Proofs.YthaahebggboliaaGreat
