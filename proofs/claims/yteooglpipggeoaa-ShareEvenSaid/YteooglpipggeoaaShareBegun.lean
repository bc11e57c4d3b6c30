/-
  What must be of shares in any case: shareBegun answers true; and what SameInts of the reference does.
-/
import Derived.Test.YteooglpipggeoaaPartsRun
namespace Go.Proofs.Yteooglpipggeoaa
open Go.RowKit Go.Lib
set_option linter.unusedVariables false

set_option maxRecDepth 100000 in
set_option maxHeartbeats 1000000 in
theorem same_some (b off cap c off' cap' : Nat) (xs : List Int) (w : World) (hm : xs.length ≤ maxLen) (h1 : ∀ j, j < xs.length → w.cell? ⟨b, off + j, none⟩ = some (.int .i64 (xs.getD j 0))) (h2 : ∀ j, j < xs.length → w.cell? ⟨c, off' + j, none⟩ = some (.int .i64 (xs.getD j 0))) :
    Calls Try.prog 22 #[.slice (some ⟨b, off, none⟩) xs.length cap, .slice (some ⟨c, off', none⟩) xs.length cap'] w fun e w' => e = .returned (.bool true) ∧ Grew w w' := by
  unfold maxLen at hm
  have H1 := Lib.hid h1
  have H2 := Lib.hid h2
  clear h1 h2
  go_enter Try.func22, Try.ntmps22
  go_wp2
  go_loopw [5] (fun i wr => ∃ k : Nat, k ≤ xs.length ∧ i = .int .i64 k ∧ Hid (Grew w wr)) (fun i _ => xs.length - (intOf i).toNat)
  case atStart => exact ⟨0, Nat.zero_le _, rfl, Grew.refl _⟩
  case round =>
    obtain ⟨k, hk, rfl, HG⟩ := hrel
    by_cases hlt : k < xs.length
    · have c1 := HG.out.cell (cell_in (H1.out k hlt)) (H1.out k hlt)
      have c2 := HG.out.cell (cell_in (H2.out k hlt)) (H2.out k hlt)
      generalize xs.getD k 0 = z at c1 c2
      have k0 : (0 : Int) ≤ k := by omega
      have k1 : (k : Int) < xs.length := by omega
      go_wp2
      go_quiet (fail)
      go_wp2
      go_roundw
      case rel => exact ⟨k + 1, by omega, by go_num, by unfold Hid; exact HG.out.drewN _⟩
      case measure => simp [intOf]; omega
    · go_wp2
      go_ret
      exact ⟨rfl, HG.out⟩
theorem same_none (a b : Option Addr) (cap cap' : Nat) (w : World) :
    Calls Try.prog 22 #[.slice a 0 cap, .slice b 0 cap'] w fun e w' => e = .returned (.bool true) ∧ Grew w w' := by
  go_enter Try.func22, Try.ntmps22
  go_wp2
  go_loop [5] (fun i => i = .int .i64 0) (fun _ => 0)
  case atStart => exact rfl
  case round =>
    obtain rfl := hrel
    go_wp2
    go_ret
    exact ⟨rfl, Grew.refl _⟩
theorem same_run (u v : Value) (xs : List Int) (w : World) (h1 : Reads w u xs) (h2 : Reads w v xs) :
    Calls Try.prog 22 #[u, v] w fun e w' => e = .returned (.bool true) ∧ Grew w w' := by
  have hm := h1.len
  rcases h1.cell with ⟨rfl, a, cap, rfl⟩ | ⟨h0, b, off, cap, rfl, hc⟩
  · rcases h2.cell with ⟨_, a', cap', rfl⟩ | ⟨h0, _⟩
    · exact same_none a a' cap cap' w
    · simp at h0
  · rcases h2.cell with ⟨rfl, _⟩ | ⟨_, b', off', cap', rfl, hc'⟩
    · simp at h0
    · exact same_some b off cap b' off' cap' xs w hm hc hc'

theorem firsts_small {nums : List Int} {m : Nat} (hl : nums.length = m + 1) (h20 : nums.length < 20) : Firsts nums (vals (ord nums m)) :=
  fun g w hR => greatest_small g nums.length m nums w hl h20 fun j hj => hR.cell hj
theorem vals_at {m : Nat} (d : Array (Fin (m + 1))) (k : Nat) (hk : k < (vals d).length) : 0 ≤ (vals d).getD k 0 ∧ (vals d).getD k 0 < ((m + 1 : Nat) : Int) := by
  rw [List.getD_eq_getElem?_getD, List.getElem?_eq_getElem hk]
  simp only [vals, List.getElem_map, Option.getD_some]
  have hd : k < d.toList.length := by simpa [vals] using hk
  have := (d.toList[k]).isLt
  omega
theorem ord_223 : vals (ord [2, 2, 3] 2) = [2, 0, 1] := by
  unfold ord Sort.insertionSort
  rw [Sort.insOuter, if_pos (by decide), Sort.insOuter, if_pos (by decide), Sort.insOuter, if_neg (by decide)]
  decide +kernel

theorem new_reads (w : World) (zs : List Int) (hm : zs.length ≤ maxLen) : Reads (w.alloc (.cells (zs.map (Value.int .i64)).toArray 3)) (.slice (some ⟨w.heap.size, 0, none⟩) zs.length zs.length) zs := by
  have : Row (w.alloc (.cells (zs.map (Value.int .i64)).toArray 3)) w.heap.size zs := heap_alloc_new w _
  exact this.reads hm _
theorem new_below (w : World) (c : Array Value) (t : TypeId) : Below w.heap.size w (w.alloc (.cells c t)) := (Below.refl _ _).alloc (Nat.le_refl _) _

/-- what a call with a new list hands back: a row, no error -/
def Back (w : World) (n : Nat) (ss : List Int) (e : Ending) (w' : World) : Prop :=
  ∃ g, e = .returned (.tuple #[.slice (some ⟨g, 0, none⟩) n n, .int .i64 0]) ∧ Row w' g ss ∧ Below w.heap.size w w'

theorem begun_parts (w : World) : Calls Try.prog 15 #[.int .i64 10, .slice (some ⟨w.heap.size, 0, none⟩) 3 3] (w.alloc (.cells #[.int .i64 3, .int .i64 3, .int .i64 1] 3)) (Back w 3 [4, 4, 2]) := by
  have h := parts_ok w.heap.size 0 3 [3, 3, 1] 10 (by decide) (by decide) _ (new_reads w [3, 3, 1] (by unfold maxLen; decide)) (by decide) (vals (ord [2, 2, 3] 2)) (firsts_small (nums := [2, 2, 3]) rfl (by decide)) (by rw [ord_223]; rfl) (fun k hk => vals_at _ k hk)
  rw [ord_223] at h
  refine h.mono ?_
  rintro e w' ⟨g, rfl, hg, hr, hb⟩
  exact ⟨g, rfl, hr, (new_below w _ _).trans (hb.mono (by rw [World.size_alloc]; omega))⟩
theorem begun_ones (w : World) : Calls Try.prog 16 #[.int .i64 5, .slice (some ⟨w.heap.size, 0, none⟩) 3 3, .int .i64 1] (w.alloc (.cells #[.int .i64 60, .int .i64 30, .int .i64 10] 3)) (Back w 3 [4, 1, 0]) := by
  have h := seats_ones w.heap.size 0 3 [60, 30, 10] 5 (by decide) _ (new_reads w [60, 30, 10] (by unfold maxLen; decide)) (by decide)
  refine h.mono ?_
  rintro e w' ⟨g, rfl, hg, hr, hb⟩
  exact ⟨g, rfl, hr, (new_below w _ _).trans (hb.below.mono (by rw [World.size_alloc]; omega))⟩
theorem begun_odds (w : World) : Calls Try.prog 16 #[.int .i64 4, .slice (some ⟨w.heap.size, 0, none⟩) 3 3, .int .i64 2] (w.alloc (.cells #[.int .i64 60, .int .i64 30, .int .i64 10] 3)) (Back w 3 [3, 1, 0]) := by
  have h := seats_odds w.heap.size 0 3 [60, 30, 10] 4 (by decide) _ (new_reads w [60, 30, 10] (by unfold maxLen; decide)) (by decide)
  refine h.mono ?_
  rintro e w' ⟨g, rfl, hg, hr, hb⟩
  exact ⟨g, rfl, hr, (new_below w _ _).trans (hb.below.mono (by rw [World.size_alloc]; omega))⟩
theorem begun_kind (w : World) : Calls Try.prog 16 #[.int .i64 1, .slice (some ⟨w.heap.size, 0, none⟩) 1 1, .int .i64 3] (w.alloc (.cells #[.int .i64 1] 3)) fun e w' => e = .returned (.tuple #[.slice none 0 0, .int .i64 7]) ∧ Below w.heap.size w w' := by
  refine (seats_kind _ [1] 1 3 _ (new_reads w [1] (by unfold maxLen; decide)) (by decide) (by decide) (by decide) (by decide) (by decide)).mono ?_
  rintro e w' ⟨rfl, rfl⟩
  exact ⟨rfl, new_below w _ _⟩
theorem begun_same (w : World) (g n : Nat) (xs : List Int) (hn : n = xs.length) (hm : xs.length ≤ maxLen) (h : Row w g xs) :
    Calls Try.prog 22 #[.slice (some ⟨g, 0, none⟩) n n, .slice (some ⟨w.heap.size, 0, none⟩) n n] (w.alloc (.cells (xs.map (Value.int .i64)).toArray 3)) fun e w' => e = .returned (.bool true) ∧ Below w.heap.size w w' := by
  subst hn
  refine (same_run _ _ xs _ ((h.reads hm _).grew ((Grew.refl w).alloc _ _)) (new_reads w xs hm)).mono ?_
  rintro e w' ⟨rfl, hg⟩
  exact ⟨rfl, (new_below w _ _).trans (hg.below.mono (by rw [World.size_alloc]; omega))⟩
theorem begun_same3 (w : World) (g : Nat) (a b c : Int) (h : Row w g [a, b, c]) :
    Calls Try.prog 22 #[.slice (some ⟨g, 0, none⟩) 3 3, .slice (some ⟨w.heap.size, 0, none⟩) 3 3] (w.alloc (.cells #[.int .i64 a, .int .i64 b, .int .i64 c] 3)) fun e w' => e = .returned (.bool true) ∧ Below w.heap.size w w' :=
  begun_same w g 3 [a, b, c] rfl (by unfold maxLen; simp) h
theorem begun_zero (w : World) : Calls Try.prog 20 #[.slice (some ⟨w.heap.size, 0, none⟩) 2 2] (w.alloc (.cells #[.int .i64 0, .int .i64 0] 3)) fun e w' => e = .returned (.int .i64 4) ∧ Below w.heap.size w w' := by
  refine (shareCheck_any _ [0, 0] _ (new_reads w [0, 0] (by unfold maxLen; decide))).mono ?_
  rintro e w' ⟨rfl, rfl⟩
  exact ⟨rfl, new_below w _ _⟩
theorem Row.on {w w' : World} {g : Nat} {zs : List Int} (h : Row w g zs) (b : Below w.heap.size w w') : Row w' g zs := h.below b h.lt
theorem bel {a b c : World} (h : Below a.heap.size a b) (k : Below b.heap.size b c) : Below a.heap.size a c := h.trans (k.mono h.size)

set_option maxRecDepth 100000 in
set_option maxHeartbeats 2000000 in
theorem shareBegun (w : World) : Calls Try.prog 19 #[] w fun e w' => e = .returned (.bool true) ∧ Below w.heap.size w w' := by
  go_enter Try.func19, Try.ntmps19
  go_wp2_with (first
    | (go_at_call 15; (with_reducible refine (begun_parts _).mono ?_); rintro e w1 ⟨g1, rfl, r1, b1⟩; have R1 := Lib.hid r1; have B1 := Lib.hid b1; clear r1 b1)
    | (go_at_call 16; (with_reducible refine (begun_ones _).mono ?_); rintro e w2 ⟨g2, rfl, r2, b2⟩; have R2 := Lib.hid r2; have B2 := Lib.hid b2; clear r2 b2)
    | (go_at_call 16; (with_reducible refine (begun_odds _).mono ?_); rintro e w3 ⟨g3, rfl, r3, b3⟩; have R3 := Lib.hid r3; have B3 := Lib.hid b3; clear r3 b3)
    | (go_at_call 16; (with_reducible refine (begun_kind _).mono ?_); rintro e w4 ⟨rfl, b4⟩; have B4 := Lib.hid b4; clear b4)
    | (go_at_call 22; (with_reducible refine (begun_same3 w4 g1 4 4 2 (((R1.out.on B2.out).on B3.out).on B4.out)).mono ?_); rintro e w5 ⟨rfl, b5⟩; have B5 := Lib.hid b5; clear b5)
    | (go_at_call 22; (with_reducible refine (begun_same3 w5 g2 4 1 0 (((R2.out.on B3.out).on B4.out).on B5.out)).mono ?_); rintro e w6 ⟨rfl, b6⟩; have B6 := Lib.hid b6; clear b6)
    | (go_at_call 22; (with_reducible refine (begun_same3 w6 g3 3 1 0 (((R3.out.on B4.out).on B5.out).on B6.out)).mono ?_); rintro e w7 ⟨rfl, b7⟩; have B7 := Lib.hid b7; clear b7)
    | (go_at_call 20; (with_reducible refine (begun_zero _).mono ?_); rintro e w8 ⟨rfl, b8⟩; have B8 := Lib.hid b8; clear b8))
  go_ret
  exact ⟨rfl, bel (bel (bel (bel (bel (bel (bel B1.out B2.out) B3.out) B4.out) B5.out) B6.out) B7.out) B8.out⟩

end Go.Proofs.Yteooglpipggeoaa
