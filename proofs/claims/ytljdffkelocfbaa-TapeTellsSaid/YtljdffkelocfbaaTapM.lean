/-
  Tapes: the mathematics. Bytes are numbers; a checksum; records, one behind the other.
-/
import Derived.Test.YtljdffkelocfbaaRows
import Derived.Laws.BitsAllLaws
import Derived.WalkKit
namespace Go.Proofs.Ytljdffkelocfbaa
open Go.RowKit
set_option linter.unusedVariables false

/-- one step of a remainder -/
def stp (r : Nat) : Nat := (r / 2) ^^^ (r % 2 * 3988292384)
def stps : Nat → Nat → Nat
  | 0, r => r
  | k + 1, r => stp (stps k r)
/-- the remainder of a byte -/
def rmd (b : Nat) : Nat := stps 8 b
/-- a checksum's state behind one more byte -/
def crs (s b : Nat) : Nat := (s / 256) ^^^ rmd ((s % 256) ^^^ b)
def crc (bs : List Nat) : Nat := 4294967295 - bs.foldl crs 4294967295
theorem xor_lt32 {a b : Nat} (ha : a < 4294967296) (hb : b < 4294967296) : a ^^^ b < 4294967296 := Nat.xor_lt_two_pow (n := 32) ha hb
theorem xor_lt8 {a b : Nat} (ha : a < 256) (hb : b < 256) : a ^^^ b < 256 := Nat.xor_lt_two_pow (n := 8) ha hb
theorem stp_lt {r : Nat} (h : r < 4294967296) : stp r < 4294967296 := xor_lt32 (by omega) (by omega)
theorem stps_lt (k : Nat) {r : Nat} (h : r < 4294967296) : stps k r < 4294967296 := by
  induction k with
  | zero => exact h
  | succ k ih => exact stp_lt ih
theorem rmd_lt {b : Nat} (h : b < 256) : rmd b < 4294967296 := stps_lt 8 (by omega)
theorem crs_lt {s b : Nat} (hs : s < 4294967296) (hb : b < 256) : crs s b < 4294967296 := xor_lt32 (by omega) (rmd_lt (xor_lt8 (by omega) hb))
def IsB (bs : List Nat) : Prop := ∀ b ∈ bs, b < 256
theorem crc_st {bs : List Nat} (h : IsB bs) {s : Nat} (hs : s < 4294967296) : bs.foldl crs s < 4294967296 := by
  induction bs generalizing s with
  | nil => exact hs
  | cons b l ih => exact ih (fun x hx => h x (by simp [hx])) (crs_lt hs (h b (by simp)))
theorem crc_lt (bs : List Nat) : crc bs < 4294967296 := by unfold crc; omega
theorem fold_take {bs : List Nat} {k : Nat} (h : k < bs.length) (s : Nat) : (bs.take (k + 1)).foldl crs s = crs ((bs.take k).foldl crs s) (bs.getD k 0) := by
  rw [List.take_succ_eq_append_getElem h, List.foldl_append, List.getD_eq_getElem?_getD, List.getElem?_eq_getElem h]; rfl
theorem getB_mem {bs : List Nat} {k : Nat} (h : k < bs.length) : bs.getD k 0 ∈ bs := by
  rw [List.getD_eq_getElem?_getD, List.getElem?_eq_getElem h]; simp
/-- the number of which bytes are the lowest ones -/
def nub (bs : List Nat) : Nat := bs.foldl (fun n b => n * 256 % 4294967296 + b) 0
/-- the lowest bytes of a number -/
def byt (n : Nat) : Nat → List Nat
  | 0 => []
  | k + 1 => n / 256 ^ k % 256 :: byt n k
theorem byt_len (n k : Nat) : (byt n k).length = k := by
  induction k with
  | zero => rfl
  | succ k ih => simp [byt, ih]
theorem byt_is (n k : Nat) : IsB (byt n k) := by
  induction k with
  | zero => intro b hb; cases hb
  | succ k ih =>
    intro b hb
    rcases List.mem_cons.1 hb with rfl | hb
    · exact Nat.mod_lt _ (by decide)
    · exact ih b hb
theorem byt_at (n : Nat) {k j : Nat} (h : j < k) : (byt n k).getD j 0 = n / 256 ^ (k - 1 - j) % 256 := by
  induction k generalizing j with
  | zero => omega
  | succ k ih =>
    cases j with
    | zero => simp [byt]
    | succ j =>
      have := ih (j := j) (by omega)
      rw [show k + 1 - 1 - (j + 1) = k - 1 - j by omega, ← this]
      simp [byt]
theorem nub_byt2 {n : Nat} (h : n < 65536) : nub (byt n 2) = n := by
  simp only [nub, byt, List.foldl_cons, List.foldl_nil]
  omega
theorem nub_byt4 {n : Nat} (h : n < 4294967296) : nub (byt n 4) = n := by
  simp only [nub, byt, List.foldl_cons, List.foldl_nil]
  omega
theorem nub_lt (bs : List Nat) (h : IsB bs) : nub bs < 4294967296 := by
  have : ∀ (l : List Nat) (n : Nat), IsB l → n < 4294967296 → l.foldl (fun n b => n * 256 % 4294967296 + b) n < 4294967296 := fun l => by
    induction l with
    | nil => intro n _ hn; exact hn
    | cons b l ih =>
      intro n hb hn
      have h1 := hb b (by simp)
      refine ih (n * 256 % 4294967296 + b) (fun x hx => hb x (by simp [hx])) ?_
      omega
  exact this bs 0 h (by decide)
theorem nub_take {bs : List Nat} {k : Nat} (h : k < bs.length) : nub (bs.take (k + 1)) = nub (bs.take k) * 256 % 4294967296 + bs.getD k 0 := by
  unfold nub
  rw [List.take_succ_eq_append_getElem h, List.foldl_append, List.getD_eq_getElem?_getD, List.getElem?_eq_getElem h]; rfl
/-- a record -/
def rcd (b : List Nat) : List Nat := byt b.length 2 ++ b ++ byt (crc b) 4
theorem rcd_len (b : List Nat) : (rcd b).length = b.length + 6 := by simp [rcd, byt_len]; omega
theorem isB_app {a b : List Nat} : IsB (a ++ b) ↔ IsB a ∧ IsB b := by
  unfold IsB
  constructor
  · exact fun h => ⟨fun x hx => h x (by simp [hx]), fun x hx => h x (by simp [hx])⟩
  · rintro ⟨h1, h2⟩ x hx
    rcases List.mem_append.1 hx with h | h
    · exact h1 x h
    · exact h2 x h
theorem rcd_is {b : List Nat} (h : IsB b) : IsB (rcd b) := isB_app.2 ⟨isB_app.2 ⟨byt_is _ _, h⟩, byt_is _ _⟩
/-- how many bytes the first record would have; does a tape begin with one; which -/
def fsz (t : List Nat) : Nat := nub (t.take 2)
def bdy (t : List Nat) : List Nat := (t.drop 2).take (fsz t)
def fst? (t : List Nat) : Bool := decide (2 ≤ t.length ∧ fsz t ≠ 0 ∧ fsz t + 6 ≤ t.length ∧ nub ((t.drop (2 + fsz t)).take 4) = crc (bdy t))
theorem fst_t {t : List Nat} (h : fst? t = true) : 2 ≤ t.length ∧ fsz t ≠ 0 ∧ fsz t + 6 ≤ t.length ∧ nub ((t.drop (2 + fsz t)).take 4) = crc (bdy t) := of_decide_eq_true h
theorem bdy_len {t : List Nat} (h : fst? t = true) : (bdy t).length = fsz t := by
  obtain ⟨h1, h2, h3, h4⟩ := fst_t h
  simp [bdy]; omega
/-- the records with which a tape begins; fuel: its length -/
def rcs : Nat → List Nat → List (List Nat)
  | 0, _ => []
  | n + 1, t => if fst? t = true then bdy t :: rcs n (t.drop (fsz t + 6)) else []
def recs (t : List Nat) : List (List Nat) := rcs t.length t
theorem rcs_more (n m : Nat) (t : List Nat) (hn : t.length ≤ n) (hm : t.length ≤ m) : rcs n t = rcs m t := by
  induction n generalizing m t with
  | zero =>
    obtain rfl : t = [] := List.eq_nil_of_length_eq_zero (by omega)
    cases m with
    | zero => rfl
    | succ m => rfl
  | succ n ih =>
    cases m with
    | zero =>
      obtain rfl : t = [] := List.eq_nil_of_length_eq_zero (by omega)
      rfl
    | succ m =>
      unfold rcs
      split
      · next h =>
        have := fst_t h
        rw [ih m _ (by simp; omega) (by simp; omega)]
      · rfl
theorem recs_t {t : List Nat} (h : fst? t = true) : recs t = bdy t :: recs (t.drop (fsz t + 6)) := by
  have h' := fst_t h
  obtain ⟨n, hn⟩ : ∃ n, t.length = n + 1 := ⟨t.length - 1, by omega⟩
  unfold recs
  rw [hn]
  show (if fst? t = true then bdy t :: rcs n (t.drop (fsz t + 6)) else []) = _
  rw [if_pos h, rcs_more n (t.drop (fsz t + 6)).length _ (by simp; omega) (Nat.le_refl _)]
theorem recs_f {t : List Nat} (h : fst? t = false) : recs t = [] := by
  unfold recs
  cases ht : t.length with
  | zero => rfl
  | succ n => simp [rcs, h]
/-- how many bytes they take -/
def ends (l : List (List Nat)) : Nat := (l.map fun b => b.length + 6).sum
theorem ends_cons (b : List Nat) (l : List (List Nat)) : ends (b :: l) = b.length + 6 + ends l := by simp [ends]
theorem ends_app (l m : List (List Nat)) : ends (l ++ m) = ends l + ends m := by simp [ends]

end Go.Proofs.Ytljdffkelocfbaa
