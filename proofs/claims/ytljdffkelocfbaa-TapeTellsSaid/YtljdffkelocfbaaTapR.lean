/-
  The reference's TapeRecord and TapePut.
-/
import Derived.Test.YtljdffkelocfbaaTapQ
import Derived.Test.YtljdffkelocfbaaTapK
namespace Go.Proofs.Ytljdffkelocfbaa
open Go.RowKit
set_option linter.unusedVariables false

theorem OwnsU.lit {w : World} {g base n : Nat} {cs : Array Value} {bs : List Nat} (h : Blk w g cs 5) (hc : cs = (bs.map u8v).toArray) (hb : base ≤ g) (hn : n = bs.length) (hl : bs.length ≤ 1000000) : OwnsU w base (.slice (some ⟨g, 0, none⟩) n n) bs := by
  subst hc hn
  exact ⟨by simp, .inr ⟨g, _, _, rfl, hb, h, Nat.le_refl _, by unfold maxLen; omega, by simp, by rw [List.toList_toArray]; exact List.take_of_length_le (by simp)⟩⟩
theorem rcd_is2 (b : List Nat) : rcd b = ([b.length / 256 % 256, b.length % 256] ++ b) ++ [crc b / 16777216 % 256, crc b / 65536 % 256, crc b / 256 % 256, crc b % 256] := by
  simp [rcd, byt]
set_option maxRecDepth 100000 in
set_option maxHeartbeats 1000000 in
theorem rrec_run (v : Value) (b : List Nat) (w : World) (h : ReadsU w v b) (hl : b.length ≤ 4000) : Calls Try.prog 27 #[v] w fun e w' => ∃ v', e = .returned v' ∧ OwnsU w' w.heap.size v' (rcd b) ∧ Kpt w w' := by
  have hc := crc_lt b
  have HS := Lib.hid (fun w' (k : Kpt w w') => rsum_run v b w' (h.kpt k))
  have HV := Lib.hid h
  obtain ⟨a, cap, rfl, -⟩ := h.form
  rw [rcd_is2]
  clear h
  generalize crc b = s at *
  have e1 : (#[.int .u8 ((b.length : Int) / 256), .int .u8 ((b.length : Int) % 256)] : Array Value) = (([b.length / 256 % 256, b.length % 256] : List Nat).map u8v).toArray := by
    have h1 : ((b.length / 256 % 256 : Nat) : Int) = (b.length : Int) / 256 := by omega
    have h2 : ((b.length % 256 : Nat) : Int) = (b.length : Int) % 256 := by omega
    simp only [u8v, List.map_cons, List.map_nil, h1, h2]
  have e2 : (#[.int .u8 ((s : Int) / 16777216), .int .u8 ((s : Int) / 65536 % 256), .int .u8 ((s : Int) / 256 % 256), .int .u8 ((s : Int) % 256)] : Array Value) = (([s / 16777216 % 256, s / 65536 % 256, s / 256 % 256, s % 256] : List Nat).map u8v).toArray := by
    have h1 : ((s / 16777216 % 256 : Nat) : Int) = (s : Int) / 16777216 := by omega
    have h2 : ((s / 65536 % 256 : Nat) : Int) = (s : Int) / 65536 % 256 := by omega
    have h3 : ((s / 256 % 256 : Nat) : Int) = (s : Int) / 256 % 256 := by omega
    have h4 : ((s % 256 : Nat) : Int) = (s : Int) % 256 := by omega
    simp only [u8v, List.map_cons, List.map_nil, h1, h2, h3, h4]
  have O0 := Lib.hid (OwnsU.lit (base := w.heap.size) (n := 2) (Blk.made w #[.int .u8 ((b.length : Int) / 256), .int .u8 ((b.length : Int) % 256)] 5) e1 (Nat.le_refl _) rfl (by simp))
  have R4 : Hid (∀ W : World, ReadsU (W.alloc (.cells #[.int .u8 ((s : Int) / 16777216), .int .u8 ((s : Int) / 65536 % 256), .int .u8 ((s : Int) / 256 % 256), .int .u8 ((s : Int) % 256)] 5)) (.slice (some ⟨W.heap.size, 0, none⟩) 4 4) [s / 16777216 % 256, s / 65536 % 256, s / 256 % 256, s % 256]) := fun W => readsU_lit (heap_alloc_new W _) [s / 16777216 % 256, s / 65536 % 256, s / 256 % 256, s % 256] 4 e2 (by intro x hx; simp at hx; omega) rfl (by simp)
  have K0 : Hid (Kpt w (w.alloc (.cells #[.int .u8 ((b.length : Int) / 256), .int .u8 ((b.length : Int) % 256)] 5))) := (Kpt.refl w).alloc _
  have L0 : Hid (([b.length / 256 % 256, b.length % 256] : List Nat).length + b.length ≤ 1000000) := by unfold Hid; simp; omega
  have L1 : Hid (([b.length / 256 % 256, b.length % 256] ++ b : List Nat).length + ([s / 16777216 % 256, s / 65536 % 256, s / 256 % 256, s % 256] : List Nat).length ≤ 1000000) := by unfold Hid; simp; omega
  clear e1 e2
  go_enter Try.func27, Try.ntmps27
  go_wp2_with (first
    | (at_builtin; refine wp_appendU rfl (.tmp 14) (.tmp 15) rfl w.heap.size _ _ [b.length / 256 % 256, b.length % 256] b _ rfl O0.out rfl (HV.out.kpt K0.out) L0.out (by rw [World.size_alloc]; omega) ?_; intro v1 w1 o1 k1; have O1 := Lib.hid o1; have K1 : Hid (Kpt w w1) := Lib.hid (K0.out.trans k1); clear o1 k1)
    | (go_at_call 13; (with_reducible refine (HS.out _ K1.out).mono ?_); rintro e w2 ⟨rfl, rfl⟩)
    | (at_builtin; refine wp_appendU rfl (.tmp 19) (.tmp 34) rfl w.heap.size _ _ _ _ _ rfl (O1.out.kpt ((Kpt.refl _).alloc _)) rfl (R4.out _) L1.out (by rw [World.size_alloc]; have := Below.size K1.out; omega) ?_; intro v2 w3 o2 k2; have O2 := Lib.hid o2; have K2 : Hid (Kpt w w3) := Lib.hid ((K1.out.alloc _).trans k2); clear o2 k2))
  go_ret
  exact ⟨_, rfl, O2.out, K2.out⟩
set_option maxRecDepth 100000 in
set_option maxHeartbeats 1000000 in
/-- the reference's Put, up to where the tape has been made -/
theorem rput_mk (a a' : Option Addr) (c c' : Nat) (t b : List Nat) (w : World) (E : Int) (hv : ReadsU w (.slice a t.length c) t) (hu : ReadsU w (.slice a' b.length c') b) (h4 : t.length ≤ 4000) (h0 : b.length ≠ 0) (hb : b.length ≤ 4000) (β : Bool) (hβ : β = true ↔ 4000 < t.length + b.length + 6) :
    Calls Try.prog 14 #[.slice a t.length c, .slice a' b.length c'] w fun e w' => ∃ v', e = .returned (.tuple #[if β then .slice none 0 0 else v', .int .i64 (if β then 8 else 0)]) ∧ ReadsU w' v' (t ++ rcd b) ∧ Kpt w w' := by
  have y1 : decide ((4000 : Int) < (t.length : Int)) = false := decide_eq_false (by omega)
  have y2 : decide ((4000 : Int) < (b.length : Int)) = false := decide_eq_false (by omega)
  have y3 : decide (4000 < t.length) = false := decide_eq_false (by omega)
  have y4 : decide (4000 < b.length) = false := decide_eq_false (by omega)
  have y5 : (b.length == 0) = false := beq_eq_false_iff_ne.2 h0
  have y6 : ((b.length : Int) == 0) = false := beq_eq_false_iff_ne.2 (by omega)
  have hq : (t ++ rcd b).length = t.length + b.length + 6 := by rw [List.length_append, rcd_len]; omega
  have y7 : decide ((4000 : Int) < ((t ++ rcd b).length : Int)) = β := by
    rw [Bool.eq_iff_iff, decide_eq_true_iff, hβ]; omega
  have y8 : decide (4000 < (t ++ rcd b).length) = β := by
    rw [Bool.eq_iff_iff, decide_eq_true_iff, hβ]; omega
  have y9 : decide ((4000 : Int) < (t.length : Int) + ((rcd b).length : Int)) = β := by rw [← y7, List.length_append]; push_cast; rfl
  have y10 : decide (4000 < t.length + (rcd b).length) = β := by rw [← y8, List.length_append]
  have hB : IsB (t ++ rcd b) := isB_app.2 ⟨hv.isB, rcd_is hu.isB⟩
  have HB := Lib.hid hB
  have HV := Lib.hid hv
  have HR := Lib.hid (fun w' (k : Kpt w w') => rrec_run _ b w' (hu.kpt k) hb)
  have RB := Lib.hid (rcd_is hu.isB)
  have RL := Lib.hid (rcd_len b)
  have HQ := Lib.hid hq
  have O0 := Lib.hid (OwnsU.empty w w.heap.size (Nat.le_refl _))
  have K0 : Hid (Kpt w (w.alloc (.cells #[] 5))) := (Kpt.refl w).alloc _
  have L0 : Hid ((([] : List Nat)).length + t.length ≤ 1000000) := by unfold Hid; simp; omega
  have L1 : Hid (t.length + (rcd b).length ≤ 1000000) := by unfold Hid; rw [rcd_len]; omega
  have L2 : Hid ((t ++ rcd b).length ≤ 1000000) := by unfold Hid; rw [hq]; omega
  have L3 : Hid ((rcd b).length ≤ 1000000) := by unfold Hid; rw [rcd_len]; omega
  clear hv hu h4 h0 hb hβ hq hB
  cases β
  all_goals (
    go_enter Try.func14, Try.ntmps14
    go_wp2_with (first
      | (at_builtin; refine wp_appendU rfl (.tmp 16) (.tmp 17) rfl w.heap.size _ _ [] t _ rfl O0.out rfl (HV.out.kpt K0.out) L0.out (by rw [World.size_alloc]; omega) ?_; intro v1 w1 o1 k1; rw [List.nil_append] at o1; have O1 := Lib.hid o1; have K1 : Hid (Kpt w w1) := Lib.hid (K0.out.trans k1); clear o1 k1)
      | (go_at_call 27; (with_reducible refine (HR.out _ K1.out).mono ?_); rintro e w2 ⟨v2, rfl, o2, k2⟩; have R2 := Lib.hid (o2.reads RB.out L3.out); have O2 := Lib.hid (O1.out.kpt k2); have K2 := Lib.hid (ktr K1.out k2); clear o2 k2)
      | (at_builtin; refine wp_appendU rfl (.tmp 18) (.tmp 20) rfl w.heap.size _ _ _ _ _ rfl O2.out rfl R2.out L1.out (Below.size K2.out) ?_; intro v3 w3 o3 k3; have R3 := Lib.hid (o3.reads HB.out L2.out); obtain ⟨a3, c3, rfl, -⟩ := R3.out.form; have K3 : Hid (Kpt w w3) := Lib.hid (K2.out.trans k3); clear o3 k3))
    go_ret2
    first
      | exact ⟨rfl, ⟨_, R3.out⟩, K3.out⟩
      | (refine ⟨.slice a3 (t ++ rcd b).length c3, ?_, R3.out, K3.out⟩
         rw [List.length_append]; rfl))
theorem rput_run (v u : Value) (t b : List Nat) (w : World) (hv : ReadsU w v t) (hu : ReadsU w u b) : Calls Try.prog 14 #[v, u] w fun e w' => ∃ v', e = .returned (.tuple #[v', .int .i64 (putE t b)]) ∧ ReadsU w' v' (if putE t b = 0 then t ++ rcd b else []) ∧ Kpt w w' := by
  obtain ⟨a, c, rfl, -⟩ := hv.form
  obtain ⟨a', c', rfl, -⟩ := hu.form
  by_cases h4 : t.length ≤ 4000
  · by_cases h0 : b.length = 0
    · have e0 : putE t b = 3 := by unfold putE; rw [if_pos h4, if_pos h0]
      rw [e0, if_neg (by decide), h0]
      have y1 : decide ((4000 : Int) < (t.length : Int)) = false := decide_eq_false (by omega)
      have y3 : decide (4000 < t.length) = false := decide_eq_false (by omega)
      go_enter Try.func14, Try.ntmps14
      go_wp2
      go_ret2
      exact ⟨_, rfl, readsU_nil w, Kpt.refl w⟩
    · by_cases hb : b.length ≤ 4000
      · refine (rput_mk a a' c c' t b w 0 hv hu h4 h0 hb (decide (4000 < t.length + b.length + 6)) (by simp)).mono ?_
        rintro e w' ⟨v', rfl, hr, hk⟩
        by_cases h6 : t.length + b.length + 6 ≤ 4000
        · have e0 : putE t b = 0 := by unfold putE; rw [if_pos h4, if_neg h0, if_pos h6]
          rw [e0, decide_eq_false (by omega), if_pos rfl]
          exact ⟨v', rfl, hr, hk⟩
        · have e0 : putE t b = 8 := by unfold putE; rw [if_pos h4, if_neg h0, if_neg h6]
          refine ⟨.slice none 0 0, ?_, ?_, hk⟩
          · rw [e0, decide_eq_true (by omega)]; rfl
          · rw [e0, if_neg (by decide)]; exact readsU_nil w'
      · have e0 : putE t b = 8 := by unfold putE; rw [if_pos h4, if_neg h0, if_neg (by omega)]
        rw [e0, if_neg (by decide)]
        have y1 : decide ((4000 : Int) < (t.length : Int)) = false := decide_eq_false (by omega)
        have y2 : decide ((4000 : Int) < (b.length : Int)) = true := decide_eq_true (by omega)
        have y3 : decide (4000 < t.length) = false := decide_eq_false (by omega)
        have y4 : decide (4000 < b.length) = true := decide_eq_true (by omega)
        have y5 : (b.length == 0) = false := beq_eq_false_iff_ne.2 h0
        have y6 : ((b.length : Int) == 0) = false := beq_eq_false_iff_ne.2 (by omega)
        clear h0 hb hv hu h4
        go_enter Try.func14, Try.ntmps14
        go_wp2
        go_ret2
        exact ⟨_, rfl, readsU_nil w, Kpt.refl w⟩
  · have e0 : putE t b = 2 := by unfold putE; rw [if_neg h4]
    rw [e0, if_neg (by decide)]
    have y1 : decide ((4000 : Int) < (t.length : Int)) = true := decide_eq_true (by omega)
    have y3 : decide (4000 < t.length) = true := decide_eq_true (by omega)
    clear hv hu h4
    go_enter Try.func14, Try.ntmps14
    go_wp2
    go_ret2
    exact ⟨_, rfl, readsU_nil w, Kpt.refl w⟩

end Go.Proofs.Ytljdffkelocfbaa
