/-
  What kept and Spare of package margin do.
-/
import Derived.Test.YtlojdehjbcombaaMarD
namespace Go.Proofs.Ytlojdehjbcombaa
open Go.RowKit
set_option linter.unusedVariables false

theorem blk_second (w : World) (cs ds : Array Value) (T T' : TypeId) : Blk ((w.alloc (.cells cs T)).alloc (.cells ds T')) (w.heap.size + 1) ds T' := by
  have := Blk.made (w.alloc (.cells cs T)) ds T'
  rwa [World.size_alloc] at this
theorem srch_one {n : Nat} {p : Nat → Bool} (hm : ∀ a b, a ≤ b → b < n → p a = true → p b = true) {k j : Nat} (hk : SrchOk n p k) (hj : SrchOk n p j) : k = j := by
  obtain ⟨a1, a2, a3⟩ := hk
  obtain ⟨b1, b2, b3⟩ := hj
  rcases Nat.lt_trichotomy k j with h | h | h
  · have h1 := a2 (by omega)
    have h2 := hm k (j - 1) (by omega) (by omega) h1
    rw [b3 (by omega)] at h2; cases h2
  · exact h
  · have h1 := b2 (by omega)
    have h2 := hm j (k - 1) (by omega) (by omega) h1
    rw [a3 (by omega)] at h2; cases h2
open Classical in
noncomputable def srchV (n : Nat) (p : Nat → Bool) : Nat := if h : ∃ k, SrchOk n p k then Classical.choose h else 0
theorem srchV_is {n : Nat} {p : Nat → Bool} (hm : ∀ a b, a ≤ b → b < n → p a = true → p b = true) {k : Nat} (hk : SrchOk n p k) : srchV n p = k := by
  have h : ∃ k, SrchOk n p k := ⟨k, hk⟩
  unfold srchV
  rw [dif_pos h]
  exact srch_one hm (Classical.choose_spec h) hk
/-- so many of a stake that it counts at least so much -/
def kpP (ps : List Int) (P U C most : Int) (i : Nat) : Bool := decide (wrt ps (P, U, C) - most ≤ wrt ps (P, (i : Int), C))
theorem kpP_mono {ps : List Int} (h : PrsOk ps) {P U C most : Int} (h0 : 0 ≤ C) {n : Nat} : ∀ a b, a ≤ b → b < n → kpP ps P U C most a = true → kpP ps P U C most b = true := fun a b hab _ ha => by
  have m := wrt_mono h (P := P) (U := (a : Int)) (V := (b : Int)) h0 (by omega)
  have := of_decide_eq_true ha
  exact decide_eq_true (by omega)
noncomputable def kpV (ps : List Int) (P U C most : Int) : Nat := srchV U.toNat (kpP ps P U C most)
theorem kpV_is {ps : List Int} (h : PrsOk ps) {P U C most : Int} (h0 : 0 ≤ C) {k : Nat} (hk : SrchOk U.toNat (kpP ps P U C most) k) : kpV ps P U C most = k := srchV_is (kpP_mono h h0) hk

set_option maxHeartbeats 1000000 in
theorem keptC_run (P U C L : Int) (b1 b2 b3 : Nat) (v : Value) (ps : List Int) (i : Nat) (w : World) (hr : Reads w v ps) (hps : PrsOk ps) (hP : 1 ≤ P ∧ P ≤ 20) (hi : i ≤ 1073741824) (h2 : 0 ≤ C ∧ C ≤ 10000)
    (B1 : Blk w b1 #[.int .i64 P, .int .i64 U, .int .i64 C] 68) (B2 : Blk w b2 #[v] 58) (B3 : Blk w b3 #[.int .i64 L] 3) :
    Calls Try.prog 113 #[.int .i64 i, .pointer (some ⟨b1, 0, none⟩), .pointer (some ⟨b2, 0, none⟩), .pointer (some ⟨b3, 0, none⟩)] w fun e w' => e = .returned (.bool (decide (L ≤ wrt ps (P, (i : Int), C)))) ∧ Kpt w w' := by
  have WO := Lib.hid (fun w' (k : Kpt w w') => worth_run P (i : Int) C v ps w' (hr.kpt k) hps hP (by omega) h2)
  obtain ⟨a, cap, rfl, -⟩ := hr
  generalize wrt ps (P, (i : Int), C) = q at *
  generalize ps.length = n at *
  have A0 := B1.cell 0
  have A1 := B1.cell 1
  have A2 := B1.cell 2
  have LT1 := B1.lt
  have LT2 := B2.lt
  have LT3 := B3.lt
  have H1 := Lib.hid B1
  have H2 := Lib.hid B2
  have H3 := Lib.hid B3
  clear B1 B2 B3 hps hP hi h2
  obtain ⟨W1, hW1⟩ : ∃ W1, W1 = w.alloc (.cells #[.int .i64 P, .int .i64 i, .int .i64 C] 68) := ⟨_, rfl⟩
  have KW : Hid (Kpt w W1) := by rw [hW1]; exact (Kpt.refl w).alloc _
  have DW : Hid (Blk W1 w.heap.size #[.int .i64 P, .int .i64 i, .int .i64 C] 68) := by rw [hW1]; exact Blk.made _ _ _
  have HW1 := Lib.hid hW1
  clear hW1
  have r0 := cell_k (q := W1) (a := ⟨w.heap.size, 0, none⟩) (v := .int .i64 P) (DW.out.cell 0)
  have r1 := cell_k (q := W1) (a := ⟨w.heap.size, 1, none⟩) (v := .int .i64 i) (DW.out.cell 1)
  have r2 := cell_k (q := W1) (a := ⟨w.heap.size, 2, none⟩) (v := .int .i64 C) (DW.out.cell 2)
  have r3 := cell_k (q := W1) (a := ⟨b2, 0, none⟩) (v := .slice a n cap) (KW.out.cell (H2.out.cell 0))
  have r4 := cell_k (q := W1) (a := ⟨b3, 0, none⟩) (v := .int .i64 L) (KW.out.cell (H3.out.cell 0))
  have WQ := Lib.hid (fun p : KptTo W1 => WO.out p.w (ktr KW.out p.h))
  go_enter Try.func113, Try.ntmps113
  go_upto_region 3 with fail
  rw [← HW1.out]
  have mixed : Try.prog.follows .mixedOrders = true := by kernel_rfl
  refine quiet_k (q := W1) mixed (by kernel_rfl) ?_
  repeat (quiet_step (first | (go_at_call 105; with_reducible refine calls_k (WQ.out _))))
  refine wpQuiet_nil ?_
  intro w8 hw1
  obtain ⟨⟨wz, kz⟩, hw2⟩ := hw1
  have hw3 : w8 = wz := hw2
  clear hw2
  subst hw3
  go_wp2
  go_ret
  exact ⟨rfl, ktr KW.out kz⟩

set_option maxHeartbeats 1000000 in
theorem kept_run (P U C most : Int) (v : Value) (ps : List Int) (w : World) (hr : Reads w v ps) (hps : PrsOk ps) (hP : 1 ≤ P ∧ P ≤ 20) (h1 : 0 ≤ U ∧ U ≤ 1073741824) (h2 : 0 ≤ C ∧ C ≤ 10000) (hm : 0 ≤ most ∧ most ≤ 1152921504606846976) :
    Calls Try.prog 77 #[.agg #[.int .i64 P, .int .i64 U, .int .i64 C], v, .int .i64 most] w fun e w' => e = .returned (.int .i64 (kpV ps P U C most)) ∧ Kpt w w' := by
  have HR := Lib.hid hr
  have WO := Lib.hid (fun w' (k : Kpt w w') => worth_run P U C v ps w' (hr.kpt k) hps hP h1 h2)
  have bd := wrt_bd hps (s := (P, U, C)) h1 h2
  have CL := Lib.hid (fun (b1 b2 b3 i : Nat) w' (k : Kpt w w') (hi : i ≤ 1073741824) B1 B2 B3 => keptC_run P U C (wrt ps (P, U, C) - most) b1 b2 b3 v ps i w' (hr.kpt k) hps hP hi h2 B1 B2 B3)
  have KI := Lib.hid (fun k => kpV_is hps (P := P) (U := U) (C := C) (most := most) h2.1 (k := k))
  obtain ⟨a, cap, rfl, -⟩ := hr
  obtain ⟨u, rfl⟩ : ∃ u : Nat, U = (u : Int) := ⟨U.toNat, by omega⟩
  have EQ : Hid (∀ i, kpP ps P (u : Int) C most i = decide (wrt ps (P, (u : Int), C) - most ≤ wrt ps (P, (i : Int), C))) := fun _ => rfl
  obtain ⟨q, hq⟩ : ∃ q, wrt ps (P, (u : Int), C) = q := ⟨_, rfl⟩
  rw [hq] at WO bd CL EQ
  clear hq
  have wn : IntKind.i64.wrap (q - most) = q - most := IntWalk.i64_in _ (by omega)
  have hu : u ≤ 1073741824 := by omega
  rw [Int.toNat_natCast] at KI
  generalize kpP ps P (u : Int) C most = p at *
  generalize kpV ps P (u : Int) C most = kv at *
  generalize ps.length = n at *
  have DA : Hid (Blk (w.alloc (.cells #[.int .i64 P, .int .i64 u, .int .i64 C] 68)) w.heap.size #[.int .i64 P, .int .i64 u, .int .i64 C] 68) := Blk.made _ _ _
  have DB : Hid (Blk ((w.alloc (.cells #[.int .i64 P, .int .i64 u, .int .i64 C] 68)).alloc (.cells #[.slice a n cap] 58)) (w.heap.size + 1) #[.slice a n cap] 58) := blk_second _ _ _ _ _
  have KB : Hid (Kpt w ((w.alloc (.cells #[.int .i64 P, .int .i64 u, .int .i64 C] 68)).alloc (.cells #[.slice a n cap] 58))) := ((Kpt.refl w).alloc _).alloc _
  have DC : Hid (Blk ((w.alloc (.cells #[.int .i64 P, .int .i64 u, .int .i64 C] 68)).alloc (.cells #[.slice a n cap] 58)) w.heap.size #[.int .i64 P, .int .i64 u, .int .i64 C] 68) := DA.out.alloc _
  clear DA hps hP h1 h2 hm bd
  go_enter Try.func77, Try.ntmps77
  go_wp2_with (first
    | (go_at_call 105; (with_reducible refine (WO.out _ KB.out).mono ?_); rintro e w1 ⟨rfl, k1⟩; have K1 := Lib.hid (ktr KB.out k1); have A1 := Lib.hid (DC.out.kpt k1); have A2 := Lib.hid (DB.out.kpt k1); have K2 : Hid (Kpt w (w1.alloc (.cells #[.int .i64 (q - most)] 3))) := K1.out.alloc _; have a1 : (w1.alloc (.cells #[.int .i64 (q - most)] 3)).cell? ⟨w.heap.size, 1, none⟩ = some (.int .i64 u) := (A1.out.alloc _).cell 1; clear k1)
    | (go_at_call 112; (with_reducible refine (search_run u _ _ _ p _ hu (fun i w' hi k => by
          rw [EQ.out]
          exact CL.out _ _ _ i w' (ktr K2.out k) (by omega) ((A1.out.alloc _).kpt k) ((A2.out.alloc _).kpt k) ((Blk.made _ _ _).kpt k))).mono ?_); rintro e w2 ⟨k, rfl, so, k2⟩; have K3 := Lib.hid (ktr K2.out k2); have SO := Lib.hid so; clear k2 so))
  go_ret
  exact ⟨by rw [KI.out k SO.out]; rfl, K3.out⟩

end Go.Proofs.Ytlojdehjbcombaa
