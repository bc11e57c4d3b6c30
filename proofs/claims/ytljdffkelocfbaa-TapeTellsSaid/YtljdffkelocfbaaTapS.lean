/-
  The reference's TapeGet: mathematics; SameBytes of two that are not one.
-/
import Derived.Test.YtljdffkelocfbaaTapR
import Derived.Test.YtljdffkelocfbaaTapP
import Derived.Laws.Strings
namespace Go.Proofs.Ytljdffkelocfbaa
open Go.RowKit
set_option linter.unusedVariables false

theorem push_all (l : List Int) (acc : ByteArray) : (l.foldl (fun r n => r.push (UInt8.ofNat n.toNat)) acc).data.toList = acc.data.toList ++ l.map (fun n => UInt8.ofNat n.toNat) := by
  induction l generalizing acc with
  | nil => simp
  | cons x l ih =>
    rw [List.foldl_cons, ih, List.map_cons]
    simp [ByteArray.push]
theorem strOf_inj {bs cs : List Nat} (hb : IsB bs) (hc : IsB cs) (h : (strOf bs).data.toList = (strOf cs).data.toList) : bs = cs := by
  have h2 := congrArg (fun s : List UInt8 => s.map UInt8.toNat) h
  unfold strOf at h2
  simp only [push_all] at h2
  have key : ∀ l : List Nat, IsB l → ((ByteArray.empty.data.toList ++ (l.map fun n : Nat => (n : Int)).map (fun n : Int => UInt8.ofNat n.toNat)).map UInt8.toNat) = l := by
    intro l hl
    rw [show ByteArray.empty.data.toList = [] from rfl, List.nil_append, List.map_map, List.map_map]
    conv => rhs; rw [← List.map_id l]
    refine List.map_congr_left fun b hb => ?_
    have := hl b hb
    simp; omega
  rw [key bs hb, key cs hc] at h2
  exact h2
theorem samN_run (v u : Value) (bs cs : List Nat) (w : World) (h1 : ReadsU w v bs) (h2 : ReadsU w u cs) (hne : bs ≠ cs) : Calls Try.prog 17 #[v, u] w fun e w' => e = .returned (.bool false) ∧ w = w' := by
  have c1 := conv_run v bs w h1
  have c2 := conv_run u cs w h2
  have hs : ((strOf bs).toList == (strOf cs).toList) = false := beq_eq_false_iff_ne.2 fun h => hne (strOf_inj h1.isB h2.isB (by rw [ByteArray.toList_eq, ByteArray.toList_eq] at h; exact h))
  clear h1 h2 hne
  generalize strOf bs = s at *
  generalize strOf cs = s' at *
  go_enter Try.func17, Try.ntmps17
  go_wp2
  go_ret
  exact ⟨rfl, rfl⟩
theorem byt_nub2 {l : List Nat} (h : IsB l) (hl : l.length = 2) : byt (nub l) 2 = l := by
  match l, hl with
  | [x, y], _ =>
    have hx := h x (by simp)
    have hy := h y (by simp)
    simp only [nub, byt, List.foldl_cons, List.foldl_nil]
    congr 1
    · omega
    · congr 1; omega
theorem byt_nub4 {l : List Nat} (h : IsB l) (hl : l.length = 4) : byt (nub l) 4 = l := by
  match l, hl with
  | [x, y, z, u], _ =>
    have hx := h x (by simp)
    have hy := h y (by simp)
    have hz := h z (by simp)
    have hu := h u (by simp)
    simp only [nub, byt, List.foldl_cons, List.foldl_nil]
    congr 1
    · omega
    · congr 1
      · omega
      · congr 1
        · omega
        · congr 1; omega
theorem isB_take {l : List Nat} (h : IsB l) (n : Nat) : IsB (l.take n) := fun x hx => h x (List.mem_of_mem_take hx)
theorem isB_drop {l : List Nat} (h : IsB l) (n : Nat) : IsB (l.drop n) := fun x hx => h x (List.mem_of_mem_drop hx)
theorem rcd_eq {d : List Nat} (hb : IsB d) (h2 : 2 ≤ d.length) (h0 : fsz d ≠ 0) (h6 : fsz d + 6 ≤ d.length) : rcd (bdy d) = d.take (fsz d + 6) ↔ fst? d = true := by
  have hl : (bdy d).length = fsz d := by unfold bdy; rw [List.length_take, List.length_drop]; omega
  have e1 : d.take (fsz d + 6) = byt (fsz d) 2 ++ bdy d ++ (d.drop (2 + fsz d)).take 4 := by
    have : byt (fsz d) 2 = d.take 2 := byt_nub2 (isB_take hb 2) (by rw [List.length_take]; omega)
    rw [this]
    unfold bdy
    rw [List.append_assoc, show fsz d + 6 = 2 + (fsz d + 4) by omega, List.take_add, List.take_add, List.drop_drop]
  have e2 : rcd (bdy d) = byt (fsz d) 2 ++ bdy d ++ byt (crc (bdy d)) 4 := by unfold rcd; rw [hl]
  have h4 : ((d.drop (2 + fsz d)).take 4).length = 4 := by rw [List.length_take, List.length_drop]; omega
  rw [e1, e2, fst_is h2 h0 h6, decide_eq_true_iff]
  constructor
  · intro h
    have := List.append_cancel_left h
    rw [← this, nub_byt4 (crc_lt _)]
  · intro h
    rw [← h, byt_nub4 (isB_take (isB_drop hb _) 4) h4]

end Go.Proofs.Ytljdffkelocfbaa
