/-
  What Put of package tape does where nothing is in the way.
-/
import Derived.Test.YtljdffkelocfbaaTapE
namespace Go.Proofs.Ytljdffkelocfbaa
open Go.RowKit
set_option linter.unusedVariables false

theorem OwnsU.base {w : World} {B B' : Nat} {v : Value} {bs : List Nat} (h : OwnsU w B v bs) (hb : B' ≤ B) : OwnsU w B' v bs := by
  refine ⟨h.1, ?_⟩
  rcases h.2 with h2 | ⟨k, cap, cur, e, hk, r⟩
  · exact .inl h2
  · exact .inr ⟨k, cap, cur, e, by omega, r⟩
theorem RowU.kpt {w w' : World} {g : Nat} {bs : List Nat} (h : RowU w g bs) (k : Kpt w w') : RowU w' g bs := Blk.below h k (Blk.lt h)
theorem concat4 (W : World) (a0 a1 a2 a3 : Option Addr) (n0 n1 n2 n3 c0 c1 c2 c3 : Nat) (l0 l1 l2 l3 : List Nat) (e0 : l0.length = n0) (e1 : l1.length = n1) (e2 : l2.length = n2) (e3 : l3.length = n3)
    (r0 : ReadsU W (.slice a0 n0 c0) l0) (r1 : ReadsU W (.slice a1 n1 c1) l1) (r2 : ReadsU W (.slice a2 n2 c2) l2) (r3 : ReadsU W (.slice a3 n3 c3) l3) (h0 : 0 < n0 + n1 + n2 + n3) (hm : n0 + n1 + n2 + n3 ≤ 100000) :
    Calls Try.prog 23 #[.slice (some ⟨W.heap.size, 0, none⟩) 4 4] (W.alloc (.cells #[.slice a0 n0 c0, .slice a1 n1 c1, .slice a2 n2 c2, .slice a3 n3 c3] 22)) fun e w' => ∃ v, e = .returned v ∧ OwnsU w' W.heap.size v (l0 ++ l1 ++ l2 ++ l3) ∧ Kpt W w' := by
  subst e0 e1 e2 e3
  have K : Kpt W (W.alloc (.cells #[.slice a0 l0.length c0, .slice a1 l1.length c1, .slice a2 l2.length c2, .slice a3 l3.length c3] 22)) := (Kpt.refl W).alloc _
  have B := Blk.made W #[.slice a0 l0.length c0, .slice a1 l1.length c1, .slice a2 l2.length c2, .slice a3 l3.length c3] 22
  have hl : lens [l0, l1, l2, l3] = l0.length + l1.length + l2.length + l3.length := by simp [lens]; omega
  refine (concat_run _ W.heap.size [l0, l1, l2, l3] (fun k hk => ?_) (by simp) (by omega) (by omega)).mono ?_
  · rcases (show k = 0 ∨ k = 1 ∨ k = 2 ∨ k = 3 by simp at hk; omega) with rfl | rfl | rfl | rfl
    · exact ⟨a0, c0, B.cell 0, r0.kpt K⟩
    · exact ⟨a1, c1, B.cell 1, r1.kpt K⟩
    · exact ⟨a2, c2, B.cell 2, r2.kpt K⟩
    · exact ⟨a3, c3, B.cell 3, r3.kpt K⟩
  · rintro e w' ⟨⟨v, rfl, ho⟩, hk⟩
    refine ⟨v, rfl, ?_, ktr K hk⟩
    have : [l0, l1, l2, l3].flatten = l0 ++ l1 ++ l2 ++ l3 := by simp
    rw [this] at ho
    exact ho.base (by rw [World.size_alloc]; omega)
theorem putE_0 {t b : List Nat} (h : putE t b = 0) : t.length ≤ 4000 ∧ 0 < b.length ∧ t.length + b.length + 6 ≤ 4000 := by
  unfold putE at h
  split at h
  · split at h
    · omega
    · split at h
      · omega
      · omega
  · omega
set_option maxRecDepth 100000 in
set_option maxHeartbeats 4000000 in
theorem put_ok (t b : List Nat) (v u : Value) (w : World) (hv : ReadsU w v t) (hu : ReadsU w u b) (h : putE t b = 0) : Calls Try.prog 10 #[v, u] w fun e w' => ∃ v', e = .returned (.tuple #[v', .int .i64 0]) ∧ OwnsU w' w.heap.size v' (t ++ rcd b) ∧ Kpt w w' := by
  obtain ⟨h4, hb, h6⟩ := putE_0 h
  obtain ⟨a, c, rfl, h1, h2, h3⟩ := hv.form
  obtain ⟨a', c', rfl, h1', h2', h3'⟩ := hu.form
  unfold maxLen at h2 h2'
  have y1 : decide ((4000 : Int) < (t.length : Int)) = false := decide_eq_false (by omega)
  have y2 : ((b.length : Int) == 0) = false := beq_eq_false_iff_ne.2 (by omega)
  have LR := Lib.hid (fun w => length_run a' b.length c' w (by omega))
  have m1 : IntKind.i64.wrap ((t.length : Int) + ((b.length : Int) + 6)) = (t.length : Int) + ((b.length : Int) + 6) := IntWalk.i64_in _ (by omega)
  have y3 : decide ((4000 : Int) < (t.length : Int) + ((b.length : Int) + 6)) = false := decide_eq_false (by omega)
  have m2 : (b.length : Int) % 4294967296 = (b.length : Int) := Int.emod_eq_of_lt (by omega) (by omega)
  have SR := Lib.hid (fun g w' (hR : RowW w' g (remL 256)) (k : Kpt w w') => sum_run g _ b w' hR (hu.kpt k))
  have B2 : Hid (∀ w, Calls Try.prog 24 #[.int .u32 (b.length : Int), .int .i64 2] w fun e w' => (∃ g, e = .returned (.slice (some ⟨g, 0, none⟩) 2 2) ∧ RowU w' g (byt b.length 2) ∧ w.heap.size ≤ g) ∧ Kpt w w') := fun w => bytes_run b.length 2 (by omega) (.inl rfl) w
  have B4 : Hid (∀ w, Calls Try.prog 24 #[.int .u32 ((crc b : Nat) : Int), .int .i64 4] w fun e w' => (∃ g, e = .returned (.slice (some ⟨g, 0, none⟩) 4 4) ∧ RowU w' g (byt (crc b) 4) ∧ w.heap.size ≤ g) ∧ Kpt w w') := fun w => bytes_run (crc b) 4 (crc_lt b) (.inr rfl) w
  have HT := Lib.hid hv
  have HB := Lib.hid hu
  have CC := Lib.hid (fun W g1 g2 (k : Kpt w W) (r1 : RowU W g1 (byt b.length 2)) (r2 : RowU W g2 (byt (crc b) 4)) => concat4 W a (some ⟨g1, 0, none⟩) a' (some ⟨g2, 0, none⟩) t.length 2 b.length 4 c 2 c' 4 t (byt b.length 2) b (byt (crc b) 4) rfl rfl rfl rfl (hv.kpt k)
    (r1.reads (byt_is _ _) (by rw [byt_len]; omega)) (hu.kpt k) (r2.reads (byt_is _ _) (by rw [byt_len]; omega)) (by omega) (by omega))
  have RC : Hid (t ++ byt b.length 2 ++ b ++ byt (crc b) 4 = t ++ rcd b) := by unfold Hid rcd; simp [List.append_assoc]
  clear h hv hu h1 h2 h3 h1' h2' h3' h4 h6
  generalize crc b = q at *
  go_enter Try.func10, Try.ntmps10
  go_wp2_with (first
    | (go_at_call 22; (with_reducible refine (LR.out _).mono ?_); rintro e w' ⟨rfl, rfl⟩)
    | (go_at_call 20; (with_reducible refine (rem_run _).mono ?_); rintro e w1 ⟨⟨g, rfl, hR, -⟩, k1⟩; have HR := Lib.hid hR; have K1 := Lib.hid k1; clear hR k1)
    | (go_at_call 21; (with_reducible refine (SR.out _ _ HR.out K1.out).mono ?_); rintro e w' ⟨rfl, rfl⟩)
    | (go_at_call 24; (with_reducible refine (B2.out _).mono ?_); rintro e w2 ⟨⟨g1, rfl, r1, -⟩, k1⟩; have R1 := Lib.hid r1; have K2 := Lib.hid (ktr K1.out k1); clear r1 k1)
    | (go_at_call 24; (with_reducible refine (B4.out _).mono ?_); rintro e w3 ⟨⟨g2, rfl, r2, -⟩, k1⟩; have R2 := Lib.hid r2; have R1 := Lib.hid (R1.out.kpt k1); have K3 := Lib.hid (ktr K2.out k1); clear r2 k1)
    | (go_at_call 23; (with_reducible refine (CC.out _ _ _ K3.out R1.out R2.out).mono ?_); rintro e w4 ⟨v', rfl, ho, k1⟩; have HO := Lib.hid ho; have K4 := Lib.hid (ktr K3.out k1); have S3 : Hid (w.heap.size ≤ w3.heap.size) := Below.size K3.out; clear ho k1))
  go_ret2
  refine ⟨_, rfl, ?_, K4.out⟩
  rw [← RC.out]
  exact HO.out.base S3.out

end Go.Proofs.Ytljdffkelocfbaa
