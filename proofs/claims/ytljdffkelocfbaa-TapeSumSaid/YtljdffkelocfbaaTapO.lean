/-
  TapeSum's closure: the sum of bytes of which one is another.
-/
import Derived.Test.YtljdffkelocfbaaTapN
import Derived.Test.YtljdffkelocfbaaTapK
namespace Go.Proofs.Ytljdffkelocfbaa
open Go.RowKit
set_option linter.unusedVariables false

/-- one byte of a row of a call's own is written -/
theorem OwnsU.wrote {w : World} {base : Nat} {v : Value} {bs : List Nat} (h : OwnsU w base v bs) (hb : IsB bs) (hl : bs.length ≤ 1000000) {j : Nat} (hj : j < bs.length) {y : Nat} (hy : y < 256) :
    ∃ k cap, v = .slice (some ⟨k, 0, none⟩) bs.length cap ∧ base ≤ k ∧ bs.length ≤ cap ∧ w.cell? ⟨k, j, none⟩ = some (.int .u8 ((bs.getD j 0 : Nat) : Int)) ∧ w.frozen? ⟨k, j, none⟩ = false ∧ ReadsU (w.setCell ⟨k, j, none⟩ (.int .u8 (y : Int))) v (bs.set j y) := by
  have hr := h.reads hb hl
  rcases h.2 with ⟨rfl, hn⟩ | ⟨k, cap, cur, rfl, hk, hh, hn, hm, hs, ht⟩
  · omega
  · obtain ⟨b, off, e, hc⟩ := hr.at_ hj
    obtain ⟨rfl, rfl⟩ : k = b ∧ 0 = off := by simpa using e
    rw [Nat.zero_add] at hc
    have hf : w.frozen? ⟨k, j, none⟩ = false := by
      have : Blk w k cur 5 := hh
      exact this.frozen j
    refine ⟨k, cap, rfl, hk, hn, hc, hf, ?_⟩
    refine ⟨_, cap, by rw [List.length_set], by rw [List.length_set]; exact hn, ⟨hm, by rw [List.length_set]; omega⟩, (fun e => by cases e), ?_, ?_⟩
    · intro b hx
      rcases List.mem_or_eq_of_mem_set hx with hx | rfl
      · exact hb b hx
      · exact hy
    · intro i hi
      rw [List.length_set] at hi
      refine ⟨k, 0, rfl, ?_⟩
      rw [Nat.zero_add]
      by_cases hij : j = i
      · subst hij
        rw [World.cell?_setCell_same' _ _ _ (by rw [hc]; rfl), List.getD_eq_getElem?_getD, List.getElem?_set_self hj]; rfl
      · obtain ⟨b2, off2, e2, hc2⟩ := hr.at_ hi
        obtain ⟨rfl, rfl⟩ : k = b2 ∧ 0 = off2 := by simpa using e2
        rw [Nat.zero_add] at hc2
        rw [World.cell?_setCell_other _ _ _ _ (fun e => hij (by injection e)), hc2, List.getD_eq_getElem?_getD, List.getD_eq_getElem?_getD, List.getElem?_set_ne hij]
set_option maxRecDepth 100000 in
set_option maxHeartbeats 1000000 in
theorem chg_run (v : Value) (bs : List Nat) (j x b1 b2 : Nat) (w : World) (hv : ReadsU w v bs) (h4 : bs.length ≤ 4000) (hj : j < bs.length) (hx : x < 256) (B1 : Blk w b1 #[v] 22) (B2 : Blk w b2 #[.int .i64 (j : Int)] 3) :
    Calls Try.prog 19 #[.int .u8 (x : Int), .pointer (some ⟨b1, 0, none⟩), .pointer (some ⟨b2, 0, none⟩)] w fun e w' => e = .returned (.int .i64 ((crc (bs.set j (bs.getD j 0 ^^^ x)) : Nat) : Int)) ∧ Kpt w w' := by
  have hb := hv.isB
  have hg : bs.getD j 0 < 256 := hb _ (getB_mem hj)
  have XR := Lib.hid (u8_xor_nat _ _ hg hx)
  have hy : bs.getD j 0 ^^^ x < 256 := xor_lt8 hg hx
  have SM := Lib.hid (fun v' w' (h : ReadsU w' v' (bs.set j (bs.getD j 0 ^^^ x))) => tsum_run v' _ w' h)
  rw [List.length_set] at SM
  have WR := Lib.hid (fun v' w' (h : OwnsU w' w.heap.size v' bs) => h.wrote hb (by omega) hj hy)
  have hcl := crc_lt (bs.set j (bs.getD j 0 ^^^ x))
  simp only [if_pos h4] at SM
  generalize crc (bs.set j (bs.getD j 0 ^^^ x)) = q at *
  generalize bs.getD j 0 ^^^ x = y at *
  generalize bs.set j y = bs' at *
  generalize bs.getD j 0 = g at *
  have HV := Lib.hid hv
  have H1 := Lib.hid B1
  have H2 := Lib.hid B2
  have O0 := Lib.hid (OwnsU.empty w w.heap.size (Nat.le_refl _))
  have L0 : Hid ((([] : List Nat)).length + bs.length ≤ 1000000) := by unfold Hid; simp; omega
  have K0 : Hid (Kpt w (w.alloc (.cells #[] 5))) := (Kpt.refl w).alloc _
  have BN : Hid (w.heap.size ≤ (w.alloc (.cells #[] 5)).heap.size) := Below.size K0.out
  have A1 : (w.alloc (.cells #[] 5)).cell? ⟨b1, 0, none⟩ = some v := K0.out.cell (B1.cell 0)
  have n0 : (0 : Int) ≤ (j : Int) := by omega
  have n1 : (j : Int) < (bs.length : Int) := by omega
  clear hv hb hg hx hy B1 B2
  go_enter Try.func19, Try.ntmps19
  go_wp2_with (first
    | (at_builtin; refine wp_appendU rfl (.tmp 8) (.tmp 9) rfl w.heap.size _ _ [] bs _ rfl O0.out rfl (HV.out.kpt K0.out) L0.out BN.out ?_; intro v1 w1 o1 k1; rw [List.nil_append] at o1; have K1 : Hid (Kpt w w1) := Lib.hid (K0.out.trans k1); have A2 : w1.cell? ⟨b2, 0, none⟩ = some (.int .i64 (j : Int)) := K1.out.cell (H2.out.cell 0); obtain ⟨k, cap, rfl, c1, c2, c3, c4, c5⟩ := WR.out _ _ o1; have R5 := Lib.hid c5; have C1 := Lib.hid c1; have KS : Hid (Kpt w (w1.setCell ⟨k, j, none⟩ (.int .u8 (y : Int)))) := Lib.hid (K1.out.setCell c1 _); have XR' := XR.out; clear o1 k1 c5 c1)
    | (go_at_call 9; (with_reducible refine (SM.out _ _ R5.out).mono ?_); rintro e w2 ⟨rfl, k2⟩; have K2 := Lib.hid (ktr KS.out k2); clear k2))
  go_ret
  exact ⟨rfl, K2.out⟩

end Go.Proofs.Ytljdffkelocfbaa
