/-
  How many bits: math/bits' OnesCount at a weekend; workdays: contracts.
-/
import Derived.Test.YtmoanndonfmihaaCalF
namespace Go.Proofs.Ytmoanndonfmihaa
open Go.RowKit
set_option linter.unusedVariables false

def ones (x : Nat) : Int := ((x % 2 + x / 2 % 2 + x / 4 % 2 + x / 8 % 2 + x / 16 % 2 + x / 32 % 2 + x / 64 % 2 : Nat) : Int)
theorem ones_bd (x : Nat) : 0 ≤ ones x ∧ ones x ≤ 7 := by unfold ones; omega
/-- what the library reckons -/
def onesA (x : Int) : Int := IntKind.u64.wrap (bits BinOp.and IntKind.u64 (x / 2) 6148914691236517205 + bits BinOp.and IntKind.u64 x 6148914691236517205)
def onesB (a : Int) : Int := IntKind.u64.wrap (bits BinOp.and IntKind.u64 (a / 4) 3689348814741910323 + bits BinOp.and IntKind.u64 a 3689348814741910323)
def onesC (b : Int) : Int := bits BinOp.and IntKind.u64 (IntKind.u64.wrap (b / 16 + b)) 1085102592571150095
def onesD (c : Int) : Int := IntKind.u64.wrap (c + c / 256)
def onesF (d : Int) : Int := IntKind.u64.wrap (d + d / 65536)
def onesG (e : Int) : Int := IntKind.u64.wrap (e + e / 4294967296)
def onesE (x : Int) : Int := bits BinOp.and IntKind.i64 (wrap64 (onesG (onesF (onesD (onesC (onesB (onesA x))))))) 127
theorem onesE_is (x : Nat) (h : x ≤ 126) : onesE (x : Int) = ones x := by
  have : ∀ y : Fin 127, onesE ((y.val : Nat) : Int) = ones y.val := by decide +kernel
  exact this ⟨x, by omega⟩
set_option maxRecDepth 100000 in
theorem ones64 (x : Nat) (h : x ≤ 126) (w : World) :
    Calls Try.prog 150 #[.int .u64 x] w fun e w' => e = .returned (.int .i64 (ones x)) ∧ w = w' := by
  go_enter Try.func150, Try.ntmps150
  go_wp2
  go_ret
  refine ⟨ret_int ?_, rfl⟩
  exact onesE_is x h
theorem onesCount (x : Int) (h0 : 0 ≤ x) (h : x ≤ 126) (w : World) :
    Calls Try.prog 117 #[.int .u64 x] w fun e w' => e = .returned (.int .i64 (ones x.toNat)) ∧ w = w' := by
  have O := Lib.hid (fun w => ones64 x.toNat (by omega) w)
  rw [show ((x.toNat : Nat) : Int) = x by omega] at O
  go_enter Try.func117, Try.ntmps117
  go_wp2_with (go_at_call 150; (with_reducible refine (O.out _).mono ?_); rintro e w' ⟨rfl, rfl⟩)
  go_ret
  exact ⟨rfl, rfl⟩

/-- no day of the weekend -/
def wrkB (W n : Int) : Bool := !wkB W n
set_option maxRecDepth 100000 in
set_option maxHeartbeats 1000000 in
theorem workdays_any (W f t : Int) (a : Option Addr) (l cap : Nat) (h0 : 0 ≤ W) (h1 : W ≤ 126) (f0 : 0 ≤ f) (ft : f ≤ t) (t1 : t ≤ 3652058) (w : World) :
    Calls Try.prog 118 #[calV W (.slice a l cap), .int .i64 f, .int .i64 t] w fun e w' => e = .returned (.int .i64 (cnt (wrkB W) f t : Nat)) ∧ Grew w w' := by
  go_enter Try.func118, Try.ntmps118
  go_wp2
  go_loopw [7, 8] (fun c i wr => ∃ (n : Int) (k : Nat), i = .int .i64 (n + 1) ∧ c = .int .i64 k ∧ f ≤ n ∧ n ≤ t ∧ k ≤ 3652058 ∧ Hid (k = cnt (wrkB W) f n) ∧ wr.cell? ⟨w.heap.size, 0, none⟩ = some (.int .i64 W) ∧ wr.cell? ⟨w.heap.size, 1, none⟩ = some (.slice a l cap) ∧ Hid (Grew w wr)) (fun _ i _ => (t + 1 - intOf i).toNat)
  case atStart => exact ⟨f, 0, rfl, rfl, by omega, by omega, by omega, by unfold Hid; rw [cnt_self], by simp [go_sem], by simp [go_sem], (Grew.refl _).alloc _ _⟩
  case round =>
    obtain ⟨n, k, rfl, rfl, n0, n1, k1, HK, c0, c1, HG⟩ := hrel
    by_cases hlt : n + 1 ≤ t
    · have WK := Lib.hid (isWeekend_any W (n + 1) a l cap h0 h1 (by omega) (by omega) wr)
      have kb := cnt_le (wrkB W) f (n + 1)
      have cs := cnt_succ (wrkB W) n0
      unfold wrkB at cs
      cases hb : wkB W (n + 1) with
      | true =>
        rw [hb] at WK cs
        have HS : Hid (k = cnt (wrkB W) f (n + 1)) := by
          unfold Hid; rw [HK.out]; exact (show cnt (wrkB W) f (n + 1) = cnt (wrkB W) f n from cs).symm
        clear cs kb hb
        go_wp2_with (go_at_call 119; (with_reducible refine WK.out.mono ?_); rintro e w2 ⟨rfl, g2⟩; have d0 := g2.cell (cell_in c0) c0; have d1 := g2.cell (cell_in c1) c1; have G2 := Lib.hid g2; clear g2)
        go_roundw
        case rel => exact ⟨n + 1, k, rfl, rfl, by omega, by omega, k1, HS, d0, d1, gtr HG.out G2.out⟩
        case measure => simp [intOf]; omega
      | false =>
        rw [hb] at WK cs
        have HS : Hid (k + 1 = cnt (wrkB W) f (n + 1)) := by
          unfold Hid; rw [HK.out]; exact (show cnt (wrkB W) f (n + 1) = cnt (wrkB W) f n + 1 from cs).symm
        have kb2 : k + 1 ≤ 3652058 := by rw [HS.out]; omega
        clear cs kb hb
        go_wp2_with (go_at_call 119; (with_reducible refine WK.out.mono ?_); rintro e w2 ⟨rfl, g2⟩; have d0 := g2.cell (cell_in c0) c0; have d1 := g2.cell (cell_in c1) c1; have G2 := Lib.hid g2; clear g2)
        go_roundw
        case rel => exact ⟨n + 1, k + 1, rfl, by go_num, by omega, by omega, kb2, HS, d0, d1, gtr HG.out G2.out⟩
        case measure => simp [intOf]; omega
    · obtain rfl : n = t := by omega
      go_wp2
      go_ret
      exact ⟨ret_int (by rw [HK.out]), HG.out⟩

end Go.Proofs.Ytmoanndonfmihaa
