/-
  What greatestFirst of package share does at forty numbers or fewer: its contract.
-/
import Derived.Test.YtmecggncedhehaaSortC
import Derived.Test.YtmecggncedhehaaStabF
import Derived.Test.YtmecggncedhehaaFirstMath
namespace Go.Proofs.Ytmecggncedhehaa
open Go.RowKit Go.Lib
set_option linter.unusedVariables false

/-- two places compared: the greater number first -/
def cfN (nums : List Int) (x y : Int) : Int := Lib.compareInt (nums.getD y.toNat 0) (nums.getD x.toNat 0)
def keyN (nums : List Int) (x : Int) : Int := - nums.getD x.toNat 0
theorem cfN_keyed (n : Nat) (nums : List Int) : Keyed n (cfN nums) (lxK (keyN nums)) :=
  keyed_of fun x y _ _ _ _ => by
    unfold cfN keyN Lib.compareInt
    generalize nums.getD x.toNat 0 = a
    generalize nums.getD y.toNat 0 = b
    constructor
    · intro h
      split at h
      · omega
      · split at h <;> omega
    · intro h
      rw [if_pos (by omega)]; decide
theorem upto_iota (n : Nat) : upto n n = iota n := by
  apply List.ext_getElem
  · simp [upto, iota]
  · intro i h1 h2
    have : i < n := by simpa [upto] using h1
    simp only [upto, iota, List.getElem_map, List.getElem_range]
    rw [if_pos this]

theorem cmp_at (B g cap n blk : Nat) (nums : List Int) (w : World) (hl : nums.length = n) (h40 : n ≤ 40) (hBb : B < blk) (hgb : g < blk) (hB : w.cell? ⟨B, 0, none⟩ = some (.slice (some ⟨g, 0, none⟩) nums.length cap)) (hN : ∀ j, j < nums.length → w.cell? ⟨g, j, none⟩ = some (.int .i64 (nums.getD j 0))) :
    CmpAt 137 #[.pointer (some ⟨B, 0, none⟩)] (cfN nums) n blk w := by
  intro W hb x y x0 x1 y0 y1
  obtain ⟨i, rfl⟩ : ∃ i : Nat, x = i := ⟨x.toNat, by omega⟩
  obtain ⟨j, rfl⟩ : ∃ j : Nat, y = j := ⟨y.toNat, by omega⟩
  have h := cmp_run B g cap nums W (by omega) ((hb.cell (p := ⟨B, 0, none⟩) hBb).trans hB) (fun k hk => (hb.cell (p := ⟨g, k, none⟩) hgb).trans (hN k hk)) i j (by omega) (by omega)
  unfold cfN
  rw [Int.toNat_natCast, Int.toNat_natCast]
  exact h

set_option maxRecDepth 100000 in
set_option maxHeartbeats 1000000 in
theorem greatest_any (g cap n : Nat) (nums : List Int) (w : World) (hl : nums.length = n) (hp : 0 < n) (h40 : n ≤ 40) (hN : ∀ j, j < nums.length → w.cell? ⟨g, j, none⟩ = some (.int .i64 (nums.getD j 0))) :
    Calls Try.prog 116 #[.slice (some ⟨g, 0, none⟩) n cap] w (Order w (ordK n (keyN nums))) := by
  have hg : g < w.heap.size := cell_in (hN 0 (by omega))
  have MK := run_zeros (w.alloc (.cells #[.slice (some ⟨g, 0, none⟩) n cap] 22)) n (by omega)
  rw [World.size_alloc] at MK
  have HN := Lib.hid hN
  have HL := Lib.hid hl
  clear hN hl
  have hb0 : (w.alloc (.cells #[.slice (some ⟨g, 0, none⟩) n cap] 22)).cell? ⟨w.heap.size, 0, none⟩ = some (.slice (some ⟨g, 0, none⟩) n cap) := by simp [go_sem]
  have HB0 := Lib.hid hb0
  have EG : Hid (∀ args w, (callFunc 137 args).run Try.prog w = .ok (.enter 137 args) w) := enters_of Try.func137 (by kernel_rfl) rfl
  clear hb0
  go_enter Try.func116, Try.ntmps116
  go_wp2
  go_loopw [10] (fun i wr => ∃ k : Nat, k ≤ n ∧ i = .int .i64 k ∧ Hid (Row wr (w.heap.size + 1) (upto n k)) ∧ Hid (Below (w.heap.size + 1) (w.alloc (.cells #[.slice (some ⟨g, 0, none⟩) n cap] 22)) wr)) (fun i _ => n - (intOf i).toNat)
  case atStart =>
    refine ⟨0, Nat.zero_le _, rfl, ?_, ?_⟩
    · unfold Hid
      rw [upto_zero]
      have := Row.made (w.alloc (.cells #[.slice (some ⟨g, 0, none⟩) n cap] 22)) n
      rw [World.size_alloc] at this
      exact this
    · exact (Below.refl _ _).alloc (by rw [World.size_alloc]; exact Nat.le_refl _) _
  case round =>
    obtain ⟨k, hk, rfl, HR, HB⟩ := hrel
    clear MK
    by_cases hlt : k < n
    · have c1 := HR.out.cell (j := k) (by rw [upto_len]; exact hlt)
      have f1 := HR.out.frozen k
      go_wp2
      go_roundw
      case rel => exact ⟨k + 1, by omega, by go_num, by unfold Hid; rw [← upto_put]; exact HR.out.put k _, HB.out.setCell (Nat.le_refl _) _⟩
      case measure => simp [intOf]; omega
    · obtain rfl : k = n := by omega
      have hr : Row wr (w.heap.size + 1) (iota k) := by
        have h := HR.out; rw [upto_iota] at h; exact h
      have CM := cmp_at w.heap.size g cap k (w.heap.size + 1) nums wr HL.out h40 (by omega) (by omega)
        (by rw [HL.out]; exact (HB.out.cell (p := ⟨w.heap.size, 0, none⟩) (by show w.heap.size < w.heap.size + 1; omega)).trans HB0.out)
        (fun j hj => (HB.out.cell (p := ⟨g, j, none⟩) (by show g < w.heap.size + 1; omega)).trans (((Below.refl w.heap.size w).alloc (Nat.le_refl _) _).cell (p := ⟨g, j, none⟩) hg |>.trans (HN.out j hj)))
      have I := sortStable_any 137 #[.pointer (some ⟨w.heap.size, 0, none⟩)] (cfN nums) (lxK (keyN nums)) k (w.heap.size + 1) k wr ⟨cfN_keyed k nums, EG.out, CM, hr, hp, h40⟩
      have HI := Lib.hid I
      clear I hr CM
      go_wp2_with (go_at_call 117; (with_reducible refine HI.out.mono ?_); rintro e w1 hs; obtain ⟨rfl, hs2⟩ := hs; have HS := Lib.hid hs2; clear hs2)
      go_ret
      have hA : Below w.heap.size w (w.alloc (.cells #[.slice (some ⟨g, 0, none⟩) k cap] 22)) := (Below.refl _ _).alloc (Nat.le_refl _) _
      obtain ⟨os, g1, g2, g3⟩ := HS.out
      have ho : os = ordK k (keyN nums) := Ordd.eq ⟨g2, g3⟩
      rw [← ho]
      exact order_mk (by rw [g2.length_eq, iota_len]) (by omega) g1.row ((hA.trans (HB.out.mono (by omega))).trans (g1.bel.mono (by omega)))

theorem firsts_any {nums : List Int} {n : Nat} (hl : nums.length = n) (hp : 0 < n) (h40 : n ≤ 40) (g : Nat) (w : World) (hR : Row w g nums) :
    Calls Try.prog 116 #[.slice (some ⟨g, 0, none⟩) nums.length nums.length] w (Order w (ordK n (keyN nums))) := by
  rw [hl]
  exact greatest_any g n n nums w hl hp h40 fun j hj => hR.cell hj

end Go.Proofs.Ytmecggncedhehaa
