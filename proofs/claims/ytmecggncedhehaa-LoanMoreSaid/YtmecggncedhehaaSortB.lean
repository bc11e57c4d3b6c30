/-
  What greatestFirst of package share does at fewer than twenty numbers: contracts.
-/
import Derived.Test.YtmecggncedhehaaSortA
namespace Go.Proofs.Ytmecggncedhehaa
open Go.RowKit Go.Lib
set_option linter.unusedVariables false

theorem size_inner {α : Type} [Inhabited α] (lt : α → α → Bool) (a : Nat) : ∀ (j : Nat) (d : Array α), (Sort.insInner lt a j d).size = d.size := by
  intro j
  induction j with
  | zero => intro d; rfl
  | succ j ih =>
    intro d
    unfold Sort.insInner
    split
    · rw [ih]; simp [Sort.swp]
    · rfl
theorem size_outer {α : Type} [Inhabited α] (lt : α → α → Bool) (a b : Nat) : ∀ (n i : Nat) (d : Array α), b - i ≤ n → (Sort.insOuter lt a b i d).size = d.size := by
  intro n
  induction n with
  | zero => intro i d h; unfold Sort.insOuter; rw [if_neg (by omega)]
  | succ n ih =>
    intro i d h
    unfold Sort.insOuter
    split
    · rw [ih _ _ (by omega), size_inner]
    · rfl
theorem plc_size (m : Nat) : (plc m).size = m + 1 := by simp [plc]
theorem ord_size (nums : List Int) (m : Nat) : (ord nums m).size = m + 1 := by
  unfold ord Sort.insertionSort; rw [size_outer _ _ _ _ _ _ (Nat.le_refl _), plc_size]
theorem vals_len {m : Nat} (d : Array (Fin (m + 1))) : (vals d).length = d.size := by simp [vals]

/-- the row of places is sorted, and nothing else turns -/
def Sorted (w : World) (blk : Nat) (zs : List Int) (e : Ending) (w' : World) : Prop := e = .returned (.tuple #[]) ∧ Row w' blk zs ∧ ∀ B, B ≤ blk → Below B w w'

theorem ins_run (B g cap m blk cap' : Nat) (nums : List Int) (w : World) (hl : nums.length = m + 1) (h40 : nums.length ≤ 40) (hBb : B ≠ blk) (hgb : g ≠ blk) (hB : w.cell? ⟨B, 0, none⟩ = some (.slice (some ⟨g, 0, none⟩) nums.length cap)) (hN : ∀ j, j < nums.length → w.cell? ⟨g, j, none⟩ = some (.int .i64 (nums.getD j 0)))
    (hR : Row w blk (vals (plc m))) :
    Calls Try.prog 148 #[.slice (some ⟨blk, 0, none⟩) (m + 1) cap', .int .i64 0, .int .i64 ((m + 1 : Nat) : Int), .func (.func 137) #[] #[.pointer (some ⟨B, 0, none⟩)]] w (Sorted w blk (vals (ord nums m))) := by
  have eg : ∀ args w, (callFunc 137 args).run Try.prog w = .ok (.enter 137 args) w := enters_of Try.func137 (by kernel_rfl) rfl
  have h := Try.insertionSortCmpFunc_one (encP m) (fun _ => rfl) (cfP nums m) 137 #[.pointer (some ⟨B, 0, none⟩)] blk 0 cap' 0 (m + 1) (plc m) w eg (cmp_reads B g cap m blk _ nums w hl h40 hBb hgb hB hN) (holds_plc hR) (by omega) (by rw [plc_size]; exact Nat.le_refl _) (by rw [plc_size]; omega)
  rw [plc_size] at h
  refine h.mono ?_
  rintro e w' ⟨rfl, n, rfl⟩
  exact ⟨rfl, row_put hR (by rw [vals_len, plc_size]; exact ord_size nums m), fun B hb => below_put (Below.refl _ _) hb⟩

set_option maxRecDepth 100000 in
set_option maxHeartbeats 1000000 in
theorem stable_run (B g cap m blk cap' : Nat) (nums : List Int) (w : World) (hl : nums.length = m + 1) (h20 : nums.length < 20) (hBb : B ≠ blk) (hgb : g ≠ blk) (hB : w.cell? ⟨B, 0, none⟩ = some (.slice (some ⟨g, 0, none⟩) nums.length cap)) (hN : ∀ j, j < nums.length → w.cell? ⟨g, j, none⟩ = some (.int .i64 (nums.getD j 0)))
    (hR : Row w blk (vals (plc m))) :
    Calls Try.prog 138 #[.slice (some ⟨blk, 0, none⟩) (m + 1) cap', .int .i64 ((m + 1 : Nat) : Int), .func (.func 137) #[] #[.pointer (some ⟨B, 0, none⟩)]] w (Sorted w blk (vals (ord nums m))) := by
  have I := ins_run B g cap m blk cap' nums w hl (by omega) hBb hgb hB hN hR
  have hm : m + 1 < 20 := by omega
  generalize vals (ord nums m) = os at I ⊢
  obtain ⟨n, hn⟩ : ∃ n, m + 1 = n := ⟨_, rfl⟩
  rw [hn] at I hm ⊢
  have HI := Lib.hid I
  clear I hn hR hN hB hl h20 hBb hgb
  have q1 : decide (20 ≤ n) = false := decide_eq_false (by omega)
  have q2 : decide (20 < n) = false := decide_eq_false (by omega)
  go_enter Try.func138, Try.ntmps138
  go_wp2
  go_loop [7, 8] (fun a b => a = .int .i64 0 ∧ b = .int .i64 20) (fun _ _ => 0)
  case atStart => exact ⟨rfl, rfl⟩
  case round =>
    obtain ⟨rfl, rfl⟩ := hrel
    go_wp2_with (go_at_call 148; (with_reducible refine HI.out.mono ?_); rintro e w1 hs; obtain ⟨rfl, hs2⟩ := hs; have HS := Lib.hid hs2; clear hs2)
    go_loop [6] (fun a => a = .int .i64 20) (fun _ => 0)
    case atStart => exact rfl
    case round =>
      obtain rfl := hrel
      go_wp2
      go_end0
      exact ⟨rfl, HS.out⟩

theorem sortStable_run (B g cap m blk cap' : Nat) (nums : List Int) (w : World) (hl : nums.length = m + 1) (h20 : nums.length < 20) (hBb : B ≠ blk) (hgb : g ≠ blk) (hB : w.cell? ⟨B, 0, none⟩ = some (.slice (some ⟨g, 0, none⟩) nums.length cap)) (hN : ∀ j, j < nums.length → w.cell? ⟨g, j, none⟩ = some (.int .i64 (nums.getD j 0)))
    (hR : Row w blk (vals (plc m))) :
    Calls Try.prog 117 #[.slice (some ⟨blk, 0, none⟩) (m + 1) cap', .func (.func 137) #[] #[.pointer (some ⟨B, 0, none⟩)]] w (Sorted w blk (vals (ord nums m))) := by
  have I := stable_run B g cap m blk cap' nums w hl h20 hBb hgb hB hN hR
  have hm : m + 1 < 20 := by omega
  generalize vals (ord nums m) = os at I ⊢
  obtain ⟨n, hn⟩ : ∃ n, m + 1 = n := ⟨_, rfl⟩
  rw [hn] at I hm ⊢
  have HI := Lib.hid I
  clear I hn hR hN hB hl h20 hBb hgb
  go_enter Try.func117, Try.ntmps117
  go_wp2_with (go_at_call 138; (with_reducible refine HI.out.mono ?_); rintro e w1 hs; obtain ⟨rfl, hs2⟩ := hs; have HS := Lib.hid hs2; clear hs2)
  go_end0
  exact ⟨rfl, HS.out⟩

end Go.Proofs.Ytmecggncedhehaa
