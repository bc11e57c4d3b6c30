/-
  What the document's own answers on prices are: Decimal, PriceShow: contracts.
-/
import Derived.Test.YtoahdhhbjljjlaaDoorPriceN
import Derived.Test.YtoahdhhbjljjlaaDoorRefChk
import Derived.Laws.IdiomStrings
namespace Go.Proofs.YtoahdhhbjljjlaaDoor
open Go.RowKit
set_option linter.unusedVariables false

theorem one_byte (w : World) (r : Int) (h0 : 0 ≤ r) (h1 : r ≤ 9) :
    (convert 60 9 (.slice (some ⟨w.heap.size, 0, none⟩) 1 1)).run Tryd.prog (w.alloc (.cells #[.int .u8 (48 + r)] 5)) = .ok (.string ⟨#[dg r.toNat]⟩) (w.alloc (.cells #[.int .u8 (48 + r)] 5)) := by
  refine run_convert_bytes_back (P := Tryd.prog) (w.alloc (.cells #[.int .u8 (48 + r)] 5)) 60 9 5 ⟨w.heap.size, 0, none⟩ 1 [dg r.toNat] Tryd.underlying60 Tryd.underlying5 Tryd.underlying9 ?_
  intro j hj
  obtain rfl : j = 0 := by simpa using hj
  have e : ((dg r.toNat).toNat : Int) = 48 + r := by rw [dg_nat (by omega)]; omega
  simp [go_sem, e, Addr.add]
theorem decimal_step {k : Nat} (h : 10 ≤ k) {acc : ByteArray} {n : Nat} (hd : Lib.decDigits n = Lib.decDigits k ++ acc.data.toList) : Lib.decDigits n = Lib.decDigits (k / 10) ++ ((⟨#[dg (k % 10)]⟩ : ByteArray) ++ acc).data.toList := by
  rw [hd, dec_step h, ByteArray.data_append, Array.toList_append, List.append_assoc]; rfl
theorem decimal_last {k : Nat} (h : k < 10) {acc : ByteArray} {n : Nat} (hd : Lib.decDigits n = Lib.decDigits k ++ acc.data.toList) : (⟨#[dg (k % 10)]⟩ : ByteArray) ++ acc = ⟨(Lib.decDigits n).toArray⟩ := by
  refine bytes_eq ?_
  rw [hd, dec_len1 h, ByteArray.data_append, Array.toList_append, Nat.mod_eq_of_lt h]; rfl
theorem ret_str {a b : ByteArray} (h : a = b) : Ending.returned (.string a) = .returned (.string b) := by rw [h]

set_option maxRecDepth 100000 in
theorem decimal_any (n : Int) (h0 : 0 ≤ n) (h1 : n < 10000000000000) (w : World) :
    Calls Tryd.prog 29 #[.int .i64 n] w fun e w' => e = .returned (.string (itS n)) ∧ Kpt w w' := by
  have il : Hid (itS n = ⟨(Lib.decDigits n.toNat).toArray⟩) := bytes_eq (by rw [itS_list n h0])
  have ln : Hid ((Lib.decDigits n.toNat).length ≤ 13) := dec_len (k := 12) (show n.toNat < 10000000000000 by omega)
  go_enter Tryd.func29, Tryd.ntmps29
  go_wp2
  go_loopw [0, 3] (fun m s wr => ∃ (k : Nat) (acc : ByteArray), m = .int .i64 k ∧ (k : Int) < 10000000000000 ∧ s = .string acc ∧ acc.size ≤ 12 ∧ Hid (Lib.decDigits n.toNat = Lib.decDigits k ++ acc.data.toList) ∧ Hid (Kpt w wr)) (fun m _ _ => (intOf m).toNat)
  case atStart => exact ⟨n.toNat, ⟨#[]⟩, by rw [show ((n.toNat : Nat) : Int) = n by omega], by omega, rfl, by decide, by unfold Hid; simp, Kpt.refl _⟩
  case round =>
    obtain ⟨k, acc, rfl, k1, rfl, ac, HD, HK⟩ := hrel
    obtain ⟨r, hr⟩ : ∃ r, (k : Int) % 10 = r := ⟨_, rfl⟩
    obtain ⟨q, hq⟩ : ∃ q, (k : Int) / 10 = q := ⟨_, rfl⟩
    have r0 : 0 ≤ r := by omega
    have r1 : r ≤ 9 := by omega
    have q0 : 0 ≤ q := by omega
    have q1 : q < 1000000000000 := by omega
    have cv := one_byte wr r r0 r1
    have er : r.toNat = k % 10 := by omega
    have eq' : q.toNat = k / 10 := by omega
    have z1 : (⟨#[dg r.toNat]⟩ : ByteArray).size ≤ 1 := Nat.le_refl _
    have st : 10 ≤ k → Hid (Lib.decDigits n.toNat = Lib.decDigits q.toNat ++ ((⟨#[dg r.toNat]⟩ : ByteArray) ++ acc).data.toList ∧ ((⟨#[dg r.toNat]⟩ : ByteArray) ++ acc).size ≤ 12) := fun h => by
      have d := decimal_step h HD.out
      rw [← er, ← eq'] at d
      refine ⟨d, ?_⟩
      have l := ln.out
      have p := dec_pos q.toNat
      rw [d, List.length_append, size_list] at l
      omega
    have la : k < 10 → Hid ((⟨#[dg r.toNat]⟩ : ByteArray) ++ acc = itS n) := fun h => by
      have d := decimal_last h HD.out
      rw [← er] at d
      exact d.trans il.out.symm
    generalize dg r.toNat = c at cv z1 st la
    by_cases hz : k < 10
    · have LA := la hz
      have qz : (q == 0) = true := by rw [show q = 0 by omega]; rfl
      clear st la er eq' hz
      go_wp2
      go_ret
      exact ⟨ret_str LA.out, ktr HK.out ((Kpt.refl _).alloc _)⟩
    · have ST := st (by omega)
      have qz : (q == 0) = false := beq_eq_false_iff_ne.2 (by omega)
      have HQ : Hid (q = ((k / 10 : Nat) : Int) ∧ q.toNat = k / 10 ∧ 10 ≤ k) := ⟨by omega, by omega, by omega⟩
      clear st la er eq' hz
      go_wp2
      go_roundw
      case rel => exact ⟨k / 10, ⟨#[c]⟩ ++ acc, by rw [HQ.out.1], by omega, rfl, ST.out.2, by have := ST.out.1; rw [HQ.out.2.1] at this; exact this, ktr HK.out ((Kpt.refl _).alloc _)⟩
      case measure => have := HQ.out; simp [intOf]; omega

/-- the places of a rest, without noughts at their end -/
def trim4 (r : Nat) : List UInt8 := Lib.trimRightB (four r) 48
theorem trim_step_fin : ∀ a b c d : Fin 10, 0 < a.val * 1000 + b.val * 100 + c.val * 10 + d.val → Lib.trimRightB [dg a.val, dg b.val, dg c.val, dg d.val] 48 = dg a.val :: Lib.trimRightB [dg b.val, dg c.val, dg d.val, dg 0] 48 := by decide +kernel
theorem trim_step {r : Nat} (h0 : 0 < r) (h1 : r < 10000) : trim4 r = dg (r / 1000) :: trim4 (r % 1000 * 10) := by
  have t := trim_step_fin ⟨r / 1000, by omega⟩ ⟨r / 100 % 10, by omega⟩ ⟨r / 10 % 10, by omega⟩ ⟨r % 10, by omega⟩ (by show 0 < r / 1000 * 1000 + r / 100 % 10 * 100 + r / 10 % 10 * 10 + r % 10; omega)
  unfold trim4 four
  rw [show r / 1000 % 10 = r / 1000 by omega, show r % 1000 * 10 / 1000 % 10 = r / 100 % 10 by omega, show r % 1000 * 10 / 100 % 10 = r / 10 % 10 by omega, show r % 1000 * 10 / 10 % 10 = r % 10 by omega, show r % 1000 * 10 % 10 = 0 by omega]
  exact t
theorem trim_zero : trim4 0 = [] := by decide
theorem trim4_le (r : Nat) : (trim4 r).length ≤ 4 := by
  unfold trim4 Lib.trimRightB
  rw [List.length_reverse]
  exact Nat.le_trans (List.dropWhile_suffix _).length_le (by simp [four])
theorem itS_one {q : Nat} (h : q < 10) : itS (q : Int) = ⟨#[dg q]⟩ := bytes_eq (by rw [itS_list _ (by omega), show ((q : Nat) : Int).toNat = q by omega, dec_len1 h]; rfl)
theorem shS_list {p : Int} (h : 0 ≤ p) : (shS p).data.toList = (itS (p / 10000)).data.toList ++ (if p % 10000 = 0 then [] else 46 :: trim4 (p % 10000).toNat) := by
  unfold shS
  by_cases hz : p % 10000 = 0
  · rw [if_pos hz, if_pos hz, List.append_nil]
  · rw [if_neg hz, if_neg hz, ByteArray.data_append, ByteArray.data_append, Array.toList_append, Array.toList_append, plS_list h]
    show _ ++ [46] ++ _ = _
    rw [List.append_assoc]; rfl

set_option maxRecDepth 100000 in
theorem rshow_loop (p : Int) (h0 : 0 ≤ p) (h1 : p < 10000000000000) (w : World) :
    Calls Tryd.prog 13 #[.int .i64 p] w fun e w' => e = .returned (.string (shS p)) ∧ Kpt w w' := by
  have D1 := Lib.hid (decimal_any (p / 10000) (by omega) (by omega) w)
  have sl := Lib.hid (shS_list h0)
  have z9 := itS_size (n := p / 10000) (by omega) (by omega)
  have r0 : 0 ≤ p % 10000 := by omega
  have r1 : p % 10000 < 10000 := by omega
  unfold Hid at sl
  generalize itS (p / 10000) = is at D1 sl z9
  have DG : Hid (∀ (k : Int), 0 ≤ k → k ≤ 9 → ∀ w', Calls Tryd.prog 29 #[.int .i64 k] w' fun e w'' => e = .returned (.string ⟨#[dg k.toNat]⟩) ∧ Kpt w' w'') := fun k k0 k1 w' => by
    have := decimal_any k k0 (by omega) w'
    rw [show k = ((k.toNat : Nat) : Int) by omega, itS_one (by omega)] at this
    rw [show k = ((k.toNat : Nat) : Int) by omega]
    exact this
  by_cases hz : p % 10000 = 0
  · have SL : Hid (shS p = is) := bytes_eq (by rw [sl, if_pos hz, List.append_nil])
    clear sl
    go_enter Tryd.func13, Tryd.ntmps13
    go_wp2_with (go_at_call 29; (with_reducible refine D1.out.mono ?_); rintro e w1 ⟨rfl, g1⟩; have G1 := Lib.hid g1; clear g1)
    go_loop [3, 4] (fun s m => s = .string is ∧ m = .int .i64 0) (fun _ _ => 0)
    case atStart => exact ⟨rfl, by rw [hz]⟩
    case round =>
      obtain ⟨rfl, rfl⟩ := hrel
      go_wp2
      go_ret
      exact ⟨ret_str SL.out.symm, G1.out⟩
  · have SL : Hid ((shS p).data.toList = (is ++ ⟨#[46]⟩ : ByteArray).data.toList ++ trim4 (p % 10000).toNat) := by
      unfold Hid
      rw [sl, if_neg hz, ByteArray.data_append, Array.toList_append, List.append_assoc]; rfl
    have r2 : 0 < p % 10000 := by omega
    have zz : (is ++ ⟨#[46]⟩ : ByteArray).size ≤ 10 := by rw [ByteArray.size_append]; show is.size + 1 ≤ 10; omega
    clear sl hz
    go_enter Tryd.func13, Tryd.ntmps13
    go_wp2_with (go_at_call 29; (with_reducible refine D1.out.mono ?_); rintro e w1 ⟨rfl, g1⟩; have G1 := Lib.hid g1; clear g1)
    go_loopw [3, 4] (fun s m wr => ∃ (k : Int) (acc : ByteArray), m = .int .i64 k ∧ 0 ≤ k ∧ k < 10000 ∧ s = .string acc ∧ acc.size ≤ 20 ∧ Hid ((shS p).data.toList = acc.data.toList ++ trim4 k.toNat ∧ acc.size + (trim4 k.toNat).length ≤ 20) ∧ Hid (Kpt w wr)) (fun _ m _ => (trim4 (intOf m).toNat).length)
    case atStart => exact ⟨p % 10000, is ++ ⟨#[46]⟩, rfl, r0, r1, rfl, by omega, ⟨SL.out, by have := trim4_le (p % 10000).toNat; omega⟩, G1.out⟩
    case round =>
      obtain ⟨k, acc, rfl, k0, k1, rfl, ac, HA, HK⟩ := hrel
      by_cases hk : k = 0
      · subst hk
        have E : Hid (shS p = acc) := bytes_eq (by have := HA.out.1; rw [show (0 : Int).toNat = 0 from rfl, trim_zero, List.append_nil] at this; exact this)
        go_wp2
        go_ret
        exact ⟨ret_str E.out.symm, HK.out⟩
      · have kp : 0 < k := by omega
        have DK := Lib.hid (DG.out (k / 1000) (by omega) (by omega) wr)
        have ts := trim_step (r := k.toNat) (by omega) (by omega)
        rw [show k.toNat / 1000 = (k / 1000).toNat by omega, show k.toNat % 1000 * 10 = (k % 1000 * 10).toNat by omega] at ts
        have HS : Hid ((shS p).data.toList = (acc ++ ⟨#[dg (k / 1000).toNat]⟩ : ByteArray).data.toList ++ trim4 (k % 1000 * 10).toNat ∧ (acc ++ ⟨#[dg (k / 1000).toNat]⟩ : ByteArray).size + (trim4 (k % 1000 * 10).toNat).length ≤ 20 ∧ (trim4 (k % 1000 * 10).toNat).length < (trim4 k.toNat).length) := by
          obtain ⟨a1, a2⟩ := HA.out
          rw [ts] at a1 a2
          refine ⟨?_, ?_, by rw [ts]; simp⟩
          · rw [a1, ByteArray.data_append, Array.toList_append, List.append_assoc]; rfl
          · rw [ByteArray.size_append]
            have : (⟨#[dg (k / 1000).toNat]⟩ : ByteArray).size = 1 := rfl
            rw [List.length_cons] at a2
            omega
        clear ts hk
        generalize dg (k / 1000).toNat = c at DK HS
        have z1 : (⟨#[c]⟩ : ByteArray).size ≤ 1 := Nat.le_refl _
        go_wp2_with (go_at_call 29; (with_reducible refine DK.out.mono ?_); rintro e w2 ⟨rfl, g2⟩; have G2 := Lib.hid g2; clear g2)
        go_roundw
        case rel => exact ⟨k % 1000 * 10, acc ++ ⟨#[c]⟩, rfl, by omega, by omega, rfl, by have := HS.out.2.1; omega, ⟨HS.out.1, HS.out.2.1⟩, ktr HK.out G2.out⟩
        case measure => simp only [intOf]; exact HS.out.2.2

end Go.Proofs.YtoahdhhbjljjlaaDoor
