/-
  Merged: Row, Prices, Ten.
-/
import Derived.Test.YtgccipmeiceonaaOwn
import Derived.Laws.MakeOwn
import Derived.Test.YtgccipmeiceonaaMp13
-- Row
namespace Go.Proofs.Ytgccipmeiceonaa
open Go.RowKit
set_option linter.unusedVariables false

/-- block g is a row of ints, just these, none of them frozen -/
def Row (w : World) (g : Nat) (zs : List Int) : Prop := w.heap[g]? = some (.cells (zs.map (Value.int .i64)).toArray 3 (0, 0))
theorem Row.lt {w : World} {g : Nat} {zs : List Int} (h : Row w g zs) : g < w.heap.size := heap_lt h
theorem Row.cell {w : World} {g : Nat} {zs : List Int} (h : Row w g zs) {j : Nat} (hj : j < zs.length) : w.cell? ⟨g, j, none⟩ = some (.int .i64 (zs.getD j 0)) := by
  have := cell_of_row w g j _ _ (0, 0) h
  rw [this, List.getElem?_toArray]
  exact getD_map zs j hj
theorem Row.frozen {w : World} {g : Nat} {zs : List Int} (h : Row w g zs) (j : Nat) : w.frozen? ⟨g, j, none⟩ = false := by
  unfold Row at h
  simp [World.frozen?, h]
theorem Row.block {w w' : World} {g : Nat} {zs : List Int} (h : Row w g zs) (e : w'.heap[g]? = w.heap[g]?) : Row w' g zs := e.trans h
theorem Row.below {w w' : World} {B g : Nat} {zs : List Int} (h : Row w g zs) (b : Below B w w') (hg : g < B) : Row w' g zs := h.block (b.block g hg)
theorem Row.grew {w w' : World} {g : Nat} {zs : List Int} (h : Row w g zs) (b : Grew w w') : Row w' g zs := h.below b.below h.lt
theorem Row.put {w : World} {g : Nat} {zs : List Int} (h : Row w g zs) (j : Nat) (z : Int) : Row (w.setCell ⟨g, j, none⟩ (.int .i64 z)) g (zs.set j z) := by
  unfold Row at h ⊢
  simp [World.setCell, Array.getElem?_modify, h, List.map_set]
theorem Row.away {w : World} {g : Nat} {zs : List Int} (h : Row w g zs) {p : Addr} (hp : g ≠ p.block) (u : Value) : Row (w.setCell p u) g zs := h.block (Below.heap_setCell w p u g hp)
theorem Row.reads {w : World} {g : Nat} {zs : List Int} (h : Row w g zs) (hm : zs.length ≤ maxLen) (cap : Nat) : Reads w (.slice (some ⟨g, 0, none⟩) zs.length cap) zs :=
  reads_mk rfl hm fun j hj => by rw [Nat.zero_add]; exact h.cell hj
theorem made_zero (n : Nat) : madeCells (Value.int .i64 0).cells n = (Array.replicate n (Value.int .i64 0)) := by
  apply Array.ext
  · simp [size_madeCells]
  · intro i h1 h2
    simp [madeCells, Value.cells, Nat.mod_one]
theorem Row.made (w : World) (n : Nat) : Row (w.alloc (.cells (Array.replicate n (Value.int .i64 0)) 3)) w.heap.size (List.replicate n 0) := by
  have := heap_alloc_new w (.cells (Array.replicate n (Value.int .i64 0)) 3)
  unfold Row
  rw [this]
  simp
theorem run_zeros (w : World) (n : Nat) (hn : n ≤ 1000000) :
    (Instr.makeSlice 22 (.int .i64 (n : Int)) (.int .i64 (n : Int))).run Try.prog w = .ok (.slice (some ⟨w.heap.size, 0, none⟩) n n) (w.alloc (.cells (Array.replicate n (Value.int .i64 0)) 3)) := by
  obtain ⟨i0, hi, hz0, hz1, hz2⟩ := info_parts Try.infoInt
  have := run_make (P := Try.prog) w 22 3 i0 (.int .i64 0) Try.underlying22 hi hz0 .i64 .i64 n n (by omega) (by omega) (by rw [hz2]; omega) (by omega)
  rw [hz1, Int.toNat_natCast, Nat.mul_one, made_zero] at this
  exact this

end Go.Proofs.Ytgccipmeiceonaa

-- Prices
namespace Go.Proofs.Ytgccipmeiceonaa
open Go.RowKit
set_option linter.unusedVariables false

/-- the first error of two -/
def orE (a b : Int) : Int := if a = 0 then b else a
theorem orE_0 {a b : Int} (h : orE a b = 0) : a = 0 ∧ b = 0 := by
  unfold orE at h
  by_cases h0 : a = 0
  · rw [if_pos h0] at h; exact ⟨h0, h⟩
  · rw [if_neg h0] at h; exact absurd h h0
theorem orE_l {a : Int} (b : Int) (h : a ≠ 0) : orE a b = a := by unfold orE; rw [if_neg h]
theorem orE_r {a b : Int} (h : a = 0) : orE a b = b := by unfold orE; rw [if_pos h]
def prsL : List Int → Int
  | [] => 0
  | p :: ps => if prcB p = true then prsL ps else 3
/-- the error of prices -/
def prsE (ps : List Int) : Int := if ps.length = 20 then prsL ps else 1
theorem prs_0 {ps : List Int} (h : prsL ps = 0) : ∀ p ∈ ps, prcB p = true := by
  induction ps with
  | nil => intro l hl; cases hl
  | cons t ts ih =>
    unfold prsL at h
    split at h
    · next h1 =>
      intro l hl
      rcases List.mem_cons.1 hl with rfl | hl
      · exact h1
      · exact ih h l hl
    · next h1 => omega
theorem prs_bd (ps : List Int) : prsL ps = 0 ∨ prsL ps = 3 := by
  induction ps with
  | nil => exact .inl rfl
  | cons t ts ih =>
    unfold prsL
    split
    · exact ih
    · exact .inr rfl
theorem drop_atI {ps : List Int} {k : Nat} (h : k < ps.length) : ps.drop k = ps.getD k 0 :: ps.drop (k + 1) := by
  rw [List.drop_eq_getElem_cons h, List.getD_eq_getElem?_getD, List.getElem?_eq_getElem h]; rfl


set_option maxHeartbeats 2000000 in
theorem prices_run (v : Value) (ps : List Int) (w : World) (hr : Reads w v ps) :
    Calls Try.prog 12 #[v] w fun e w' => e = .returned (.int .i64 (prsE ps)) ∧ w = w' := by
  obtain ⟨a, cap, rfl, hm, hc⟩ := hr
  unfold maxLen at hm
  have HC := Lib.hid hc
  obtain ⟨n, hn⟩ : ∃ n, n = ps.length := ⟨_, rfl⟩
  by_cases h6 : ps.length = 20
  · have HX : Hid (prsE ps = prsL (ps.drop 0)) := by unfold Hid prsE; rw [if_pos h6]; rfl
    have DR := Lib.hid (fun k (h : k < ps.length) => drop_atI h)
    have DA : Hid (ps.drop n = []) := by unfold Hid; rw [hn, List.drop_length]
    rw [← hn] at HC hm h6 DR ⊢
    have y1 : ((n : Int) != 20) = false := by rw [h6]; rfl
    clear hc hn h6
    go_enter Try.func12, Try.ntmps12
    go_wp2
    go_loop [11] (fun ii => ∃ k : Nat, k ≤ n ∧ ii = .int .i64 (k : Int) ∧ Hid (prsE ps = prsL (ps.drop k))) (fun ii => n - (intOf ii).toNat)
    case atStart => exact ⟨0, Nat.zero_le _, rfl, HX.out⟩
    case round =>
      obtain ⟨k, hk, rfl, HE⟩ := hrel
      by_cases hlt : k < n
      · obtain ⟨g, off, rfl, c0⟩ := HC.out k hlt
        have he := HE.out
        rw [DR.out k hlt] at he
        unfold prsL at he
        clear HE
        generalize ps.getD k 0 = p at *
        by_cases hp : prcB p = true
        · rw [if_pos hp] at he
          have PC := Lib.hid (fun w' => pcheck_ok p hp w')
          have HE2 := Lib.hid he
          clear he hp
          go_wp2_with (go_at_call 73; (with_reducible refine (PC.out _).mono ?_); rintro x w2 ⟨rfl, rfl⟩)
          go_round
          case rel => exact ⟨k + 1, by omega, by go_num, HE2.out⟩
          case measure => simp [intOf]; omega
        · rw [if_neg hp] at he
          have PC := Lib.hid (fun w' => pcheck_no p (by simpa using hp) w')
          have HE2 := Lib.hid he
          clear he hp
          go_wp2_with (go_at_call 73; (with_reducible refine (PC.out _).mono ?_); rintro x w2 ⟨rfl, rfl⟩)
          go_ret
          exact ⟨ret_int HE2.out.symm, rfl⟩
      · obtain rfl : k = n := by omega
        rw [DA.out] at HE
        go_wp2
        go_ret
        exact ⟨ret_int HE.out.symm, rfl⟩
  · have HX : Hid (prsE ps = 1) := by unfold Hid prsE; rw [if_neg h6]
    rw [← hn] at HC hm h6 ⊢
    have y1 : ((n : Int) != 20) = true := bne_iff_ne.2 (by omega)
    clear hc hn
    go_enter Try.func12, Try.ntmps12
    go_wp2
    go_ret
    exact ⟨ret_int HX.out.symm, rfl⟩


end Go.Proofs.Ytgccipmeiceonaa

-- Ten
namespace Go.Proofs.Ytgccipmeiceonaa
open Go.RowKit
set_option linter.unusedVariables false

def tenL (k : Nat) : List Int := List.replicate k 100000 ++ List.replicate (20 - k) 0
theorem tenL_len (k : Nat) (h : k ≤ 20) : (tenL k).length = 20 := by simp [tenL]; omega
set_option maxHeartbeats 400000 in
theorem tenEach_run (w : World) : Calls Try.prog 71 #[] w fun e w' => ∃ v, e = .returned v ∧ Reads w' v (tenL 20) ∧ Kpt w w' := by
  have MK : (Instr.makeSlice 22 (.int .i64 20) (.int .i64 20)).run Try.prog w = .ok (.slice (some ⟨w.heap.size, 0, none⟩) 20 20) (w.alloc (.cells (Array.replicate 20 (Value.int .i64 0)) 3)) := run_zeros w 20 (by omega)
  have R0 : Hid (Row (w.alloc (.cells (Array.replicate 20 (Value.int .i64 0)) 3)) w.heap.size (tenL 0)) := Row.made w 20
  generalize hW : w.alloc (.cells (Array.replicate 20 (Value.int .i64 0)) 3) = W at MK R0
  have KW : Hid (Kpt w W) := by rw [← hW]; exact (Kpt.refl w).alloc _
  clear hW
  go_enter Try.func71, Try.ntmps71
  go_wp2
  go_loopw [2] (fun i wr => ∃ k : Nat, k ≤ 20 ∧ i = .int .i64 k ∧ Hid (Row wr w.heap.size (tenL k)) ∧ Hid (Kpt w wr)) (fun i _ => 20 - (intOf i).toNat)
  case atStart => exact ⟨0, Nat.zero_le _, rfl, R0.out, KW.out⟩
  case round =>
    obtain ⟨k, hk, rfl, HR, HK⟩ := hrel
    clear MK
    by_cases hlt : k < 20
    · have c1 := HR.out.cell (j := k) (by rw [tenL_len k hk]; exact hlt)
      have f1 := HR.out.frozen k
      have hp : (tenL k).set k 100000 = tenL (k + 1) := by
        unfold tenL
        rw [List.set_append_right _ _ (by simp), List.length_replicate, Nat.sub_self, show 20 - k = (20 - (k + 1)) + 1 by omega, List.replicate_succ, List.set_cons_zero, List.replicate_succ', List.append_assoc]; rfl
      have HP := Lib.hid hp
      clear hp
      have k0 : (k : Int) < 20 := by omega
      go_wp2
      go_roundw
      case rel => exact ⟨k + 1, by omega, by go_num, by unfold Hid; rw [← HP.out]; exact HR.out.put k _, HK.out.setCell (Nat.le_refl _) _⟩
      case measure => simp [intOf]; omega
    · obtain rfl : k = 20 := by omega
      have R : Reads wr (.slice (some ⟨w.heap.size, 0, none⟩) 20 20) (tenL 20) := reads_mk (tenL_len 20 (Nat.le_refl _)) (by unfold maxLen; decide) (fun j hj => by rw [Nat.zero_add]; exact HR.out.cell hj)
      have HRR := Lib.hid R
      clear R
      go_wp2
      go_ret
      exact ⟨_, rfl, HRR.out, HK.out⟩

end Go.Proofs.Ytgccipmeiceonaa
