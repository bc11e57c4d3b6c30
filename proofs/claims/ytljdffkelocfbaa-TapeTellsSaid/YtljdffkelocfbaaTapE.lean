/-
  What slices.Concat does of slices of bytes; what Put, Sum, Torn of package tape do.
-/
import Derived.Test.YtljdffkelocfbaaTapD
namespace Go.Proofs.Ytljdffkelocfbaa
open Go.RowKit
set_option linter.unusedVariables false

def lens (L : List (List Nat)) : Nat := (L.map List.length).sum
theorem lens_take {L : List (List Nat)} {k : Nat} (h : k < L.length) : lens (L.take (k + 1)) = lens (L.take k) + (L.getD k []).length := by
  unfold lens
  rw [List.take_succ_eq_append_getElem h, List.map_append, List.sum_append, List.getD_eq_getElem?_getD, List.getElem?_eq_getElem h]; simp
theorem lens_mono (L : List (List Nat)) (k : Nat) : lens (L.take k) ≤ lens L := by
  have : lens L = lens (L.take k) + lens (L.drop k) := by
    unfold lens
    rw [← List.sum_append, ← List.map_append, List.take_append_drop]
  omega
theorem flat_take {L : List (List Nat)} {k : Nat} (h : k < L.length) : (L.take (k + 1)).flatten = (L.take k).flatten ++ L.getD k [] := by
  rw [List.take_succ_eq_append_getElem h, List.flatten_append, List.getD_eq_getElem?_getD, List.getElem?_eq_getElem h]; simp
theorem flat_len (L : List (List Nat)) : L.flatten.length = lens L := by unfold lens; rw [List.length_flatten]

set_option maxRecDepth 100000 in
set_option maxHeartbeats 2000000 in
theorem concat_run (W0 : World) (b : Nat) (L : List (List Nat)) (hc : ∀ k, k < L.length → ∃ a c, W0.cell? ⟨b, k, none⟩ = some (.slice a (L.getD k []).length c) ∧ ReadsU W0 (.slice a (L.getD k []).length c) (L.getD k [])) (hL : L.length ≤ 1000)
    (h0 : 0 < lens L) (hm : lens L ≤ 100000) :
    Calls Try.prog 23 #[.slice (some ⟨b, 0, none⟩) L.length L.length] W0 fun e w' => (∃ v, e = .returned v ∧ OwnsU w' W0.heap.size v L.flatten) ∧ Kpt W0 w' := by
  have HC := Lib.hid hc
  have HT := Lib.hid (fun k (h : k < L.length) => lens_take h)
  have HM := Lib.hid (fun k => lens_mono L k)
  have HF := Lib.hid (fun k (h : k < L.length) => flat_take h)
  have HN := Lib.hid (fun k => flat_len (L.take k))
  have HG := Lib.hid (fun w => grow_newU (lens L) w h0 hm)
  clear hc
  go_enter Try.func23, Try.ntmps23
  go_wp2
  go_loop [3, 5, 11] (fun s x i => ∃ k : Nat, k ≤ L.length ∧ i = .int .i64 k ∧ s = .int .i64 ((lens (L.take k) : Nat) : Int)) (fun _ _ i => L.length - (intOf i).toNat)
  case atStart => exact ⟨0, Nat.zero_le _, rfl, rfl⟩
  case round =>
    obtain ⟨k, hk, rfl, rfl⟩ := hrel
    by_cases hlt : k < L.length
    · obtain ⟨a, c, c1, -⟩ := HC.out k hlt
      have ht := HT.out k hlt
      have hm1 := HM.out (k + 1)
      generalize L.getD k [] = l at c1 ht
      generalize l.length = n at c1 ht
      generalize lens (L.take k) = s at ht ⊢
      have b0 : (0 : Int) ≤ (k : Int) := by omega
      have b1 : (k : Int) < (L.length : Int) := by omega
      have m1 : IntKind.i64.wrap ((s : Int) + (n : Int)) = ((lens (L.take (k + 1)) : Nat) : Int) := by rw [IntWalk.i64_in _ (by omega)]; omega
      generalize hq : lens (L.take (k + 1)) = q at m1 ht hm1
      have q0 : decide ((q : Int) < 0) = false := decide_eq_false (by omega)
      clear ht hm1
      go_wp2
      exact ⟨⟨k + 1, hlt, by go_num, by rw [hq]⟩, by simp [intOf]; omega⟩
    · obtain rfl : k = L.length := by omega
      rw [List.take_length]
      go_wp2_with (go_at_call 28; (with_reducible refine (HG.out _).mono ?_); rintro e w1 ⟨⟨G, rfl, ho⟩, g1⟩; have HO := Lib.hid ho; have G1 : Hid (Kpt W0 w1) := Lib.hid g1.kpt; clear ho g1)
      go_loopw [6, 8, 27] (fun v x i wr => ∃ k : Nat, k ≤ L.length ∧ i = .int .i64 k ∧ Hid (OwnsU wr W0.heap.size v (L.take k).flatten) ∧ Hid (Kpt W0 wr)) (fun _ _ i _ => L.length - (intOf i).toNat)
      case atStart => exact ⟨0, Nat.zero_le _, rfl, HO.out, G1.out⟩
      case round =>
        obtain ⟨k, hk, rfl, HV, HK⟩ := hrel
        by_cases hlt : k < L.length
        · obtain ⟨a, c, c1, r1⟩ := HC.out k hlt
          have c2 := HK.out.cell c1
          have RR := Lib.hid (r1.kpt HK.out)
          have hf := Lib.hid (HF.out k hlt)
          have LE : Hid ((L.take k).flatten.length + (L.getD k []).length ≤ 1000000) := by
            have h1 := HM.out (k + 1)
            have h2 := HT.out k hlt
            have h3 := HN.out k
            unfold Hid; omega
          have BE : Hid (W0.heap.size ≤ wr.heap.size) := Below.size HK.out
          clear c1 r1
          have b0 : (0 : Int) ≤ (k : Int) := by omega
          have b1 : (k : Int) < (L.length : Int) := by omega
          obtain ⟨av, nv, cv, rfl, -⟩ := HV.out.form
          generalize L.getD k [] = l at c2 RR hf LE
          go_wp2_with (at_builtin; refine wp_appendU rfl (.tmp 31) (.tmp 32) rfl W0.heap.size _ _ _ _ wr rfl HV.out rfl RR.out LE.out BE.out ?_; intro v' w' ho' hb'; have HO' := Lib.hid ho'; have HB' : Hid (Kpt W0 w') := Below.trans HK.out hb'; clear ho' hb')
          go_roundw
          case rel => exact ⟨k + 1, hlt, by go_num, by unfold Hid; rw [hf.out]; exact HO'.out, HB'.out⟩
          case measure => simp [intOf]; omega
        · obtain rfl : k = L.length := by omega
          rw [List.take_length] at HV
          go_wp2
          go_ret
          exact ⟨⟨_, rfl, HV.out⟩, HK.out⟩

theorem tsum_run (v : Value) (bs : List Nat) (w : World) (h : ReadsU w v bs) : Calls Try.prog 9 #[v] w fun e w' => e = .returned (.tuple #[.int .i64 (if bs.length ≤ 4000 then ((crc bs : Nat) : Int) else 0), .int .i64 (if bs.length ≤ 4000 then 0 else 2)]) ∧ Kpt w w' := by
  obtain ⟨a, cap, rfl, hlc, hm, hn⟩ := h.form
  unfold maxLen at hm
  by_cases h4 : bs.length ≤ 4000
  · rw [if_pos h4, if_pos h4]
    have y : decide ((4000 : Int) < (bs.length : Int)) = false := decide_eq_false (by omega)
    have hc := crc_lt bs
    have SR := Lib.hid (fun g w' (hR : RowW w' g (remL 256)) (k : Kpt w w') => sum_run g _ bs w' hR (h.kpt k))
    clear h
    generalize crc bs = q at hc SR ⊢
    go_enter Try.func9, Try.ntmps9
    go_wp2_with (first
      | (go_at_call 20; (with_reducible refine (rem_run _).mono ?_); rintro e w1 ⟨⟨g, rfl, hR, -⟩, k1⟩; have HR := Lib.hid hR; have K1 := Lib.hid k1; clear hR k1)
      | (go_at_call 21; (with_reducible refine (SR.out _ _ HR.out K1.out).mono ?_); rintro e w' ⟨rfl, rfl⟩))
    go_ret2
    exact ⟨rfl, K1.out⟩
  · rw [if_neg h4, if_neg h4]
    have y : decide ((4000 : Int) < (bs.length : Int)) = true := decide_eq_true (by omega)
    go_enter Try.func9, Try.ntmps9
    go_wp2
    go_ret2
    exact ⟨rfl, Kpt.refl _⟩
/-- the error of Torn -/
def torE (n : Nat) (k : Int) : Int := if n ≤ 4000 then (if 0 ≤ k ∧ k ≤ n then 0 else 3) else 2
set_option maxHeartbeats 1000000 in
theorem torn_run (v : Value) (bs : List Nat) (k : Int) (w : World) (h : ReadsU w v bs) : Calls Try.prog 12 #[v, .int .i64 k] w fun e w' => ∃ v', e = .returned (.tuple #[v', .int .i64 (torE bs.length k)]) ∧ OwnsU w' w.heap.size v' (if torE bs.length k = 0 then bs.take k.toNat else []) ∧ Kpt w w' := by
  obtain ⟨a, cap, rfl, hlc, hm, hn⟩ := h.form
  unfold maxLen at hm
  by_cases h4 : bs.length ≤ 4000
  · have y : decide ((4000 : Int) < (bs.length : Int)) = false := decide_eq_false (by omega)
    by_cases hk : 0 ≤ k ∧ k ≤ bs.length
    · have e0 : torE bs.length k = 0 := by unfold torE; rw [if_pos h4, if_pos hk]
      rw [e0, if_pos rfl]
      have y1 : decide (k < 0) = false := decide_eq_false (by omega)
      have y2 : decide ((bs.length : Int) < k) = false := decide_eq_false (by omega)
      have k0 : 0 ≤ k := hk.1
      have k2 : k ≤ (cap : Int) := by omega
      obtain ⟨n, rfl⟩ := Int.eq_ofNat_of_zero_le k0
      have y3 : decide (bs.length < n) = false := decide_eq_false (by omega)
      have n2 : n ≤ cap := by omega
      have CU := Lib.hid (cloneU_run (.slice a n cap) (bs.take n) w (h.take (by omega)) (by simp; omega))
      rw [Int.toNat_natCast]
      clear h e0 hk
      go_enter Try.func12, Try.ntmps12
      go_wp2_with (go_at_call 26; (with_reducible refine CU.out.mono ?_); rintro e w1 ⟨v', rfl, ho, k1⟩; have HO := Lib.hid ho; have K1 := Lib.hid k1; clear ho k1)
      go_ret2
      exact ⟨_, rfl, HO.out, K1.out⟩
    · have e0 : torE bs.length k = 3 := by unfold torE; rw [if_pos h4, if_neg hk]
      rw [e0, if_neg (by decide)]
      clear h e0
      by_cases hk0 : k < 0
      · have y1 : decide (k < 0) = true := decide_eq_true hk0
        go_enter Try.func12, Try.ntmps12
        go_wp2
        go_ret2
        exact ⟨_, rfl, OwnsU.nil _ _, Kpt.refl _⟩
      · have y1 : decide (k < 0) = false := decide_eq_false hk0
        have y2 : decide ((bs.length : Int) < k) = true := decide_eq_true (by omega)
        go_enter Try.func12, Try.ntmps12
        go_wp2
        go_ret2
        exact ⟨_, rfl, OwnsU.nil _ _, Kpt.refl _⟩
  · have y : decide ((4000 : Int) < (bs.length : Int)) = true := decide_eq_true (by omega)
    have e0 : torE bs.length k = 2 := by unfold torE; rw [if_neg h4]
    rw [e0, if_neg (by decide)]
    go_enter Try.func12, Try.ntmps12
    go_wp2
    go_ret2
    exact ⟨_, rfl, OwnsU.nil _ _, Kpt.refl _⟩

/-- the error of Put -/
def putE (t b : List Nat) : Int := if t.length ≤ 4000 then (if b.length = 0 then 3 else if t.length + b.length + 6 ≤ 4000 then 0 else 8) else 2
set_option maxRecDepth 100000 in
set_option maxHeartbeats 4000000 in
theorem put_bad (t b : List Nat) (v u : Value) (w : World) (hv : ReadsU w v t) (hu : ReadsU w u b) (h : putE t b ≠ 0) : Calls Try.prog 10 #[v, u] w fun e w' => e = .returned (.tuple #[.slice none 0 0, .int .i64 (putE t b)]) ∧ Kpt w w' := by
  obtain ⟨a, c, rfl, h1, h2, h3⟩ := hv.form
  obtain ⟨a', c', rfl, h1', h2', h3'⟩ := hu.form
  unfold maxLen at h2 h2'
  by_cases h4 : t.length ≤ 4000
  · have y1 : decide ((4000 : Int) < (t.length : Int)) = false := decide_eq_false (by omega)
    by_cases hb : b.length = 0
    · have e0 : putE t b = 3 := by unfold putE; rw [if_pos h4, if_pos hb]
      rw [e0, hb]
      clear h e0 hv hu
      go_enter Try.func10, Try.ntmps10
      go_wp2
      go_ret2
      exact ⟨rfl, Kpt.refl _⟩
    · have y2 : ((b.length : Int) == 0) = false := beq_eq_false_iff_ne.2 (by omega)
      have h6 : ¬ t.length + b.length + 6 ≤ 4000 := fun q => h (by unfold putE; rw [if_pos h4, if_neg hb, if_pos q])
      have e0 : putE t b = 8 := by unfold putE; rw [if_pos h4, if_neg hb, if_neg h6]
      rw [e0]
      have hl := hu.len
      have LR := Lib.hid (fun w => length_run a' b.length c' w hl)
      have m1 : IntKind.i64.wrap ((t.length : Int) + ((b.length : Int) + 6)) = (t.length : Int) + ((b.length : Int) + 6) := IntWalk.i64_in _ (by omega)
      have y3 : decide ((4000 : Int) < (t.length : Int) + ((b.length : Int) + 6)) = true := decide_eq_true (by omega)
      clear h e0 hv hu h6
      go_enter Try.func10, Try.ntmps10
      go_wp2_with (go_at_call 22; (with_reducible refine (LR.out _).mono ?_); rintro e w' ⟨rfl, rfl⟩)
      go_ret2
      exact ⟨rfl, Kpt.refl _⟩
  · have y1 : decide ((4000 : Int) < (t.length : Int)) = true := decide_eq_true (by omega)
    have e0 : putE t b = 2 := by unfold putE; rw [if_neg h4]
    rw [e0]
    clear h e0 hv hu
    go_enter Try.func10, Try.ntmps10
    go_wp2
    go_ret2
    exact ⟨rfl, Kpt.refl _⟩

end Go.Proofs.Ytljdffkelocfbaa
