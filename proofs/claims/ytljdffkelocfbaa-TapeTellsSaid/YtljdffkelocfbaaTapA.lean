/-
  Bytes in memory; what numberOf, bytesOf, length of package tape do.
-/
import Derived.Test.YtljdffkelocfbaaTapM
import Derived.Test.YtljdffkelocfbaaKept
import Derived.Test.YtljdffkelocfbaaOwn
import Derived.Test.YtljdffkelocfbaaBlk
namespace Go.Proofs.Ytljdffkelocfbaa
open Go.RowKit
set_option linter.unusedVariables false

/-- the slice v reads as these bytes -/
def ReadsU (w : World) (v : Value) (bs : List Nat) : Prop :=
  ∃ (a : Option Addr) (cap : Nat), v = .slice a bs.length cap ∧ bs.length ≤ cap ∧ (cap ≤ maxLen ∧ bs.length ≤ 140737488355328) ∧ (a = none → cap = 0) ∧ IsB bs ∧ ∀ j, j < bs.length → ∃ b off, a = some ⟨b, off, none⟩ ∧ w.cell? ⟨b, off + j, none⟩ = some (.int .u8 ((bs.getD j 0 : Nat) : Int))
theorem ReadsU.kpt {w w' : World} {v : Value} {bs : List Nat} (h : ReadsU w v bs) (g : Kpt w w') : ReadsU w' v bs := by
  obtain ⟨a, cap, rfl, h1, h2, h3, h4, hc⟩ := h
  refine ⟨a, cap, rfl, h1, h2, h3, h4, fun j hj => ?_⟩
  obtain ⟨b, off, rfl, h'⟩ := hc j hj
  exact ⟨b, off, rfl, g.cell h'⟩
theorem ReadsU.isB {w : World} {v : Value} {bs : List Nat} (h : ReadsU w v bs) : IsB bs := by
  obtain ⟨a, cap, rfl, h1, h2, h3, h4, hc⟩ := h; exact h4
theorem ReadsU.form {w : World} {v : Value} {bs : List Nat} (h : ReadsU w v bs) : ∃ a cap, v = .slice a bs.length cap ∧ bs.length ≤ cap ∧ cap ≤ maxLen ∧ (a = none → cap = 0) := by
  obtain ⟨a, cap, rfl, h1, h2, h3, h4, hc⟩ := h; exact ⟨a, cap, rfl, h1, h2.1, h3⟩
theorem ReadsU.len {w : World} {v : Value} {bs : List Nat} (h : ReadsU w v bs) : bs.length ≤ 140737488355328 := by
  obtain ⟨a, cap, rfl, h1, h2, h3, h4, hc⟩ := h; exact h2.2
theorem ReadsU.at_ {w : World} {a : Option Addr} {n cap : Nat} {bs : List Nat} (h : ReadsU w (.slice a n cap) bs) {j : Nat} (hj : j < bs.length) : ∃ b off, a = some ⟨b, off, none⟩ ∧ w.cell? ⟨b, off + j, none⟩ = some (.int .u8 ((bs.getD j 0 : Nat) : Int)) := by
  obtain ⟨a', cap', e, -, -, -, -, hc⟩ := h
  injection e with e1 e2 e3
  rw [e1]; exact hc j hj
theorem getB_take {bs : List Nat} {n j : Nat} (h : j < n) : (bs.take n).getD j 0 = bs.getD j 0 := by
  rw [List.getD_eq_getElem?_getD, List.getD_eq_getElem?_getD, List.getElem?_take_of_lt h]
theorem ReadsU.take {w : World} {a : Option Addr} {m cap : Nat} {bs : List Nat} (h : ReadsU w (.slice a m cap) bs) {n : Nat} (hn : n ≤ bs.length) : ReadsU w (.slice a n cap) (bs.take n) := by
  obtain ⟨a', cap', e, h1, h2, h3, h4, hc⟩ := h
  injection e with e1 e2 e3
  subst e1 e3
  have hl : (bs.take n).length = n := by rw [List.length_take]; omega
  refine ⟨_, cap, by rw [hl], by omega, ⟨h2.1, by omega⟩, h3, fun b hb => h4 b (List.mem_of_mem_take hb), fun j hj => ?_⟩
  obtain ⟨b, off, e, h'⟩ := hc j (by omega)
  exact ⟨b, off, e, by rw [getB_take (by omega)]; exact h'⟩
theorem readsU_nil (w : World) : ReadsU w (.slice none 0 0) [] := ⟨none, 0, rfl, Nat.le_refl _, ⟨Nat.zero_le _, Nat.zero_le _⟩, fun _ => rfl, (fun b hb => by cases hb), fun j hj => absurd hj (Nat.not_lt_zero j)⟩

theorem or_join {s z : Nat} (hs : s < 4294967296) (hz : z < 256) : bits .or .u32 ((s : Int) * 256 % 4294967296) (z : Int) = ((s * 256 % 4294967296 + z : Nat) : Int) := by
  have e : ((s : Int) * 256 % 4294967296) = ((s * 256 % 4294967296 : Nat) : Int) := by rw [Int.natCast_emod, Int.natCast_mul]; rfl
  rw [e, u32_or_nat _ _ (by omega) (by omega), nat_join 8 _ _ (by omega) (by omega)]
set_option maxHeartbeats 1000000 in
theorem number_run (v : Value) (bs : List Nat) (w : World) (h : ReadsU w v bs) : Calls Try.prog 31 #[v] w fun e w' => e = .returned (.int .u32 ((nub bs : Nat) : Int)) ∧ w = w' := by
  have hb := h.isB
  obtain ⟨a, cap, rfl, hlc, hm, hn⟩ := h.form
  unfold maxLen at hm
  have H := Lib.hid h
  clear h
  go_enter Try.func31, Try.ntmps31
  go_wp2
  go_loop [3, 8] (fun n i => ∃ k : Nat, k ≤ bs.length ∧ i = .int .i64 (k : Int) ∧ n = .int .u32 ((nub (bs.take k) : Nat) : Int)) (fun _ i => bs.length - (intOf i).toNat)
  case atStart => exact ⟨0, Nat.zero_le _, rfl, rfl⟩
  case round =>
    obtain ⟨k, hk, rfl, rfl⟩ := hrel
    by_cases hlt : k < bs.length
    · obtain ⟨b, off, rfl, hc⟩ := H.out.at_ hlt
      have hz := hb _ (getB_mem hlt)
      have hs := nub_lt (bs.take k) (fun x hx => hb x (List.mem_of_mem_take hx))
      have hst := nub_take hlt
      generalize bs.getD k 0 = z at hc hz hst
      generalize nub (bs.take k) = s at hs hst ⊢
      have hj := or_join hs hz
      rw [← hst] at hj
      have b0 : (0 : Int) ≤ (k : Int) := by omega
      have b1 : (k : Int) < (bs.length : Int) := by omega
      clear hst
      go_wp2
      exact ⟨⟨k + 1, hlt, by go_num, rfl⟩, by simp [intOf]; omega⟩
    · obtain rfl : k = bs.length := by omega
      rw [List.take_length]
      go_wp2
      go_ret
      exact ⟨rfl, rfl⟩
theorem length_run (a : Option Addr) (n cap : Nat) (w : World) (h6 : n ≤ 140737488355328) : Calls Try.prog 22 #[.slice a n cap] w fun e w' => e = .returned (.int .i64 ((n : Int) + 6)) ∧ w = w' := by
  have m1 : IntKind.i64.wrap (2 + (n : Int)) = 2 + (n : Int) := IntWalk.i64_in _ (by omega)
  have m2 : IntKind.i64.wrap (2 + (n : Int) + 4) = (n : Int) + 6 := by rw [IntWalk.i64_in _ (by omega)]; omega
  go_enter Try.func22, Try.ntmps22
  go_wp2
  go_ret
  exact ⟨rfl, rfl⟩

def u8v (n : Nat) : Value := .int .u8 (n : Int)
def u32v (n : Nat) : Value := .int .u32 (n : Int)
theorem Try.infoU8 : (Try.prog.info? 5).map (fun i => (i.zero, i.size, i.bytes)) = some (some (.int .u8 0), 1, 1) := by kernel_rfl
theorem made_zeroU (n : Nat) : madeCells (Value.int .u8 0).cells n = (Array.replicate n (Value.int .u8 0)) := by
  apply Array.ext
  · simp [size_madeCells]
  · intro i h1 h2
    simp [madeCells, Value.cells, Nat.mod_one]
theorem run_zerosU (w : World) (n : Nat) (hn : n ≤ 1000000) :
    (Instr.makeSlice 22 (.int .i64 (n : Int)) (.int .i64 (n : Int))).run Try.prog w = .ok (.slice (some ⟨w.heap.size, 0, none⟩) n n) (w.alloc (.cells (Array.replicate n (Value.int .u8 0)) 5)) := by
  obtain ⟨i0, hi, hz0, hz1, hz2⟩ := info_parts Try.infoU8
  have := run_make (P := Try.prog) w 22 5 i0 (.int .u8 0) Try.underlying22 hi hz0 .i64 .i64 n n (by omega) (by omega) (by rw [hz2]; omega) (by omega)
  rw [hz1, Int.toNat_natCast, Nat.mul_one, made_zeroU] at this
  exact this
/-- a block of bytes, known whole -/
def RowU (w : World) (g : Nat) (bs : List Nat) : Prop := Blk w g (bs.map u8v).toArray 5
theorem RowU.put {w : World} {g : Nat} {bs : List Nat} (h : RowU w g bs) (j n : Nat) : RowU (w.setCell ⟨g, j, none⟩ (.int .u8 (n : Int))) g (bs.set j n) := by
  have := Blk.put h j (.int .u8 (n : Int))
  unfold RowU
  rw [List.map_set]
  simpa [u8v] using this
theorem RowU.cell {w : World} {g : Nat} {bs : List Nat} (h : RowU w g bs) {j : Nat} (hj : j < bs.length) : w.cell? ⟨g, j, none⟩ = some (.int .u8 ((bs.getD j 0 : Nat) : Int)) := by
  rw [Blk.cell h, List.getElem?_toArray, List.getElem?_map, List.getElem?_eq_getElem hj, List.getD_eq_getElem?_getD, List.getElem?_eq_getElem hj]; rfl
theorem RowU.reads {w : World} {g : Nat} {bs : List Nat} (h : RowU w g bs) (hb : IsB bs) (hm : bs.length ≤ 1000000) : ReadsU w (.slice (some ⟨g, 0, none⟩) bs.length bs.length) bs :=
  ⟨_, _, rfl, Nat.le_refl _, ⟨by unfold maxLen; omega, by omega⟩, (fun e => by cases e), hb, fun j hj => ⟨g, 0, rfl, by rw [Nat.zero_add]; exact h.cell hj⟩⟩
theorem RowU.made (w : World) (n : Nat) : RowU (w.alloc (.cells (Array.replicate n (Value.int .u8 0)) 5)) w.heap.size (List.replicate n 0) := by
  have := Blk.made w (Array.replicate n (Value.int .u8 0)) 5
  unfold RowU
  simpa [u8v] using this
set_option maxRecDepth 100000 in
set_option maxHeartbeats 1000000 in
theorem bytes_run (n m : Nat) (hn : n < 4294967296) (hm : m = 2 ∨ m = 4) (w : World) : Calls Try.prog 24 #[.int .u32 (n : Int), .int .i64 (m : Int)] w fun e w' => (∃ g, e = .returned (.slice (some ⟨g, 0, none⟩) m m) ∧ RowU w' g (byt n m) ∧ w.heap.size ≤ g) ∧ Kpt w w' := by
  have MK := run_zerosU w m (by omega)
  have R0 : Hid (RowU (w.alloc (.cells (Array.replicate m (Value.int .u8 0)) 5)) w.heap.size (List.replicate m 0)) := RowU.made w m
  generalize hW : w.alloc (.cells (Array.replicate m (Value.int .u8 0)) 5) = W at MK R0
  have KW : Hid (Kpt w W) := by rw [← hW]; exact (Kpt.refl w).alloc _
  clear hW
  go_enter Try.func24, Try.ntmps24
  go_wp2
  go_loopw [11] (fun i wr => ∃ k : Nat, k ≤ m ∧ i = .int .i64 k ∧ Hid (RowU wr w.heap.size (List.replicate (m - k) 0 ++ byt n k)) ∧ Hid (Kpt w wr)) (fun i _ => m - (intOf i).toNat)
  case atStart => exact ⟨0, Nat.zero_le _, rfl, by simpa [byt, Hid] using R0.out, KW.out⟩
  case round =>
    obtain ⟨k, hk, rfl, HR, HK⟩ := hrel
    clear MK
    by_cases hlt : k < m
    · have f1 := HR.out.frozen (m - 1 - k)
      have c1 := HR.out.cell (j := m - 1 - k) (by simp [byt_len]; omega)
      have hp : (List.replicate (m - k) 0 ++ byt n k).set (m - 1 - k) (n / 256 ^ k % 256) = List.replicate (m - (k + 1)) 0 ++ byt n (k + 1) := by
        rw [List.set_append_left _ _ (by simp; omega), show m - k = (m - 1 - k) + 1 by omega, List.replicate_succ', List.set_append_right _ _ (by simp)]
        simp [byt, show m - 1 - k = m - (k + 1) by omega]
      have HP := Lib.hid hp
      clear hp
      have m1 : IntKind.i64.wrap ((m : Int) - 1) = (m : Int) - 1 := IntWalk.i64_in _ (by omega)
      have m2 : IntKind.i64.wrap ((m : Int) - 1 - (k : Int)) = ((m - 1 - k : Nat) : Int) := by rw [IntWalk.i64_in _ (by omega)]; omega
      have m3 : IntKind.i64.wrap (8 * (k : Int)) = 8 * (k : Int) := IntWalk.i64_in _ (by omega)
      obtain ⟨z, hz⟩ : ∃ z, z = n / 256 ^ k % 256 := ⟨_, rfl⟩
      have m4 : ((n : Int) / 2 ^ (8 * k) % 256) = (z : Int) := by
        rw [hz, show (256 : Nat) ^ k = 2 ^ (8 * k) by rw [Nat.pow_mul]]
        push_cast; rfl
      rw [← hz] at HP
      have RP := Lib.hid (HR.out.put (m - 1 - k) z)
      rw [HP.out] at RP
      clear hz
      go_wp2
      exact ⟨⟨k + 1, hlt, by go_num, RP.out, HK.out.setCell (Nat.le_refl _) _⟩, by simp [intOf]; omega⟩
    · obtain rfl : k = m := by omega
      go_wp2
      go_ret
      exact ⟨⟨_, rfl, by simpa using HR.out, Nat.le_refl _⟩, HK.out⟩

end Go.Proofs.Ytljdffkelocfbaa
