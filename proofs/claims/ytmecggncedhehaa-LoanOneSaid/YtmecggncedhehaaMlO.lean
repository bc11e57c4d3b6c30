/-
  Merged: LawLO.
-/
import Derived.Test.YtmecggncedhehaaMlK
-- LawLO
namespace Go.Proofs.Ytmecggncedhehaa
open Go.RowKit Go.Lib
set_option linter.unusedVariables false

theorem one_offer {w : World} {g P U C : Int} {b : Nat} (B : Blk w b #[.int .i64 P, .int .i64 U, .int .i64 C] 66) (h : InP [(P, U, C)]) : ReadsP w (.slice (some ⟨b, 0, none⟩) 1 1) [(P, U, C)] := by
  refine ⟨_, 1, rfl, (fun e => by cases e), by unfold maxLen; simp, h, fun j hj => ⟨b, 0, rfl, ?_⟩⟩
  obtain rfl : j = 0 := by simp at hj; omega
  exact ⟨B.cell 0, B.cell 1, B.cell 2⟩
theorem ord_one (k : Int → Int) : ordK 1 k = [0] := (Ordd.eq ⟨by decide, by simp⟩).symm
theorem best_one {P U C u : Int} (h : u ≤ U) : bestR [(P, U, C)] u = ([u], u * C / 10000) := by
  unfold bestR
  rw [show ([(P, U, C)] : List (Int × Int × Int)).length = 1 from rfl, ord_one]
  have e : min u U = u := by omega
  simp [bestF, e]
theorem pbs_one {U u : Int} (h0 : 0 ≤ u) (hE : wtsE [U] = 0) : pbs u [U] = [u] := by
  have h1 := pbs_len u [U]
  have h2 := pbs_sum h0 hE
  match hp : pbs u [U], h1 with
  | [x], _ => rw [hp] at h2; simp at h2; rw [h2]
theorem cost_one {u C : Int} (hu : 0 ≤ u ∧ u ≤ 1073741824) (hC : 0 ≤ C ∧ C ≤ 1099511627776) : u * (C / 10000) ≤ u * C / 10000 ∧ u * C / 10000 ≤ u * (C / 10000 + 1) ∧ 0 ≤ u * (C / 10000) ∧ u * (C / 10000 + 1) ≤ 118059162071741130 + 1073741824 ∧ 0 ≤ C / 10000 ∧ C / 10000 ≤ 109951163 := by
  have h1 : 0 ≤ C / 10000 := by omega
  have h2 : C / 10000 ≤ 109951162 := by omega
  have h3 : u * (C / 10000) ≤ u * 109951162 := Int.mul_le_mul_of_nonneg_left h2 hu.1
  have h4 : 0 ≤ u * (C / 10000) := Int.mul_nonneg hu.1 h1
  have h5 : C = 10000 * (C / 10000) + C % 10000 := by omega
  have h6 : u * C = 10000 * (u * (C / 10000)) + u * (C % 10000) := by
    conv => lhs; rw [h5]
    rw [Int.mul_add, Int.mul_left_comm]
  have h7 : 0 ≤ u * (C % 10000) := Int.mul_nonneg hu.1 (by omega)
  have h8 : u * (C % 10000) ≤ u * 10000 := Int.mul_le_mul_of_nonneg_left (by omega) hu.1
  have h9 : u * (C / 10000 + 1) = u * (C / 10000) + u := by rw [Int.mul_add, Int.mul_one]
  omega

set_option maxRecDepth 100000 in
set_option maxHeartbeats 2000000 in
theorem lone_no (P U C u : Int) (w : World) (hI : InP [(P, U, C)]) (hE : wantE [(P, U, C)] u ≠ 0) : Calls Try.prog 12 #[.agg #[.int .i64 P, .int .i64 U, .int .i64 C], .int .i64 u] w fun x w' => x = .returned (.bool true) ∧ Kpt w w' := by
  have S := Lib.hid (fun v w' (r : ReadsP w' v [(P, U, C)]) => lshare_bad v _ u w' r hE)
  have B := Lib.hid (fun v w' (r : ReadsP w' v [(P, U, C)]) => best_bad v _ u w' r hE)
  have q : (wantE [(P, U, C)] u != 0) = true := bne_iff_ne.2 hE
  have HI := Lib.hid hI
  clear hE hI
  generalize wantE [(P, U, C)] u = E at *
  have B1 : Hid (Blk ((w.alloc (.cells #[.int .i64 P, .int .i64 U, .int .i64 C] 66)).alloc (.cells #[.int .i64 P, .int .i64 U, .int .i64 C] 66)) (w.heap.size + 1) #[.int .i64 P, .int .i64 U, .int .i64 C] 66) := by
    have := Blk.made (w.alloc (.cells #[.int .i64 P, .int .i64 U, .int .i64 C] 66)) #[.int .i64 P, .int .i64 U, .int .i64 C] 66
    rwa [World.size_alloc] at this
  have K0 : Hid (Kpt w ((w.alloc (.cells #[.int .i64 P, .int .i64 U, .int .i64 C] 66)).alloc (.cells #[.int .i64 P, .int .i64 U, .int .i64 C] 66))) := ((Kpt.refl w).alloc _).alloc _
  have R0 := Lib.hid (one_offer (g := 0) B1.out HI.out)
  clear B1
  go_enter Try.func12, Try.ntmps12
  go_wp2_with (first
    | (go_at_call 26; (with_reducible refine (S.out _ _ R0.out).mono ?_); rintro e w1 ⟨rfl, k1⟩; have K0 := Lib.hid (ktr K0.out k1); have R0 := Lib.hid (ReadsP.kpt R0.out k1); clear k1)
    | (go_at_call 27; (with_reducible refine (B.out _ _ R0.out).mono ?_); rintro e w1 ⟨rfl, k1⟩; have K0 := Lib.hid (ktr K0.out k1); clear k1)
    | (go_at_call 34; (with_reducible refine (loanBegun _).mono ?_); rintro e w1 ⟨rfl, k1⟩; have K0 := Lib.hid (ktr K0.out k1); clear k1))
  go_ret
  exact ⟨rfl, K0.out⟩

theorem one_new (w : World) (z : Int) : Reads (w.alloc (.cells #[.int .i64 z] 3)) (.slice (some ⟨w.heap.size, 0, none⟩) 1 1) [z] := by
  have B := Blk.made w #[.int .i64 z] 3
  refine reads_mk rfl (by unfold maxLen; decide) fun j hj => ?_
  obtain rfl : j = 0 := by simp at hj; omega
  exact B.cell 0

set_option maxRecDepth 100000 in
set_option maxHeartbeats 4000000 in
theorem lone_ok (P U C u c d D : Int) (w : World) (hI : InP [(P, U, C)]) (hc0 : 0 ≤ C) (hd0 : 0 ≤ D) (hd1 : D ≤ 109951163) (hD : C / 10000 = D) (h1 : c ≤ u * (D + 1)) (h2 : u * D ≤ c) (h3 : 0 ≤ u * D) (h4 : u * (D + 1) ≤ 118059162071741130 + 1073741824) (hu : 0 ≤ u ∧ u ≤ 1073741824)
    (S0 : ∀ v w', ReadsP w' v [(P, U, C)] → Calls Try.prog 26 #[v, .int .i64 u] w' fun e w'' => ∃ g, e = .returned (.tuple #[.slice (some ⟨g, 0, none⟩) 1 1, .int .i64 0]) ∧ w'.heap.size ≤ g ∧ Row w'' g [u] ∧ Kpt w' w'')
    (B0 : ∀ v w', ReadsP w' v [(P, U, C)] → Calls Try.prog 27 #[v, .int .i64 u] w' fun e w'' => ∃ g, e = .returned (.tuple #[.slice (some ⟨g, 0, none⟩) 1 1, .int .i64 c, .int .i64 0]) ∧ w'.heap.size ≤ g ∧ Row w'' g [u] ∧ Kpt w' w'')
    (K0 : ∀ v g w', ReadsP w' v [(P, U, C)] → Row w' g [u] → Calls Try.prog 28 #[v, .slice (some ⟨g, 0, none⟩) 1 1, .int .i64 u] w' fun e w'' => ∃ a c, e = .returned (.tuple #[.slice a 1 c, .int .i64 0]) ∧ Reads w'' (.slice a 1 c) [0] ∧ Kpt w' w'') :
    Calls Try.prog 12 #[.agg #[.int .i64 P, .int .i64 U, .int .i64 C], .int .i64 u] w fun x w' => x = .returned (.bool true) ∧ Kpt w w' := by
  have S := Lib.hid S0
  have B := Lib.hid B0
  have KB := Lib.hid K0
  have HI := Lib.hid hI
  have m1 : IntKind.i64.wrap (u * (D + 1)) = u * (D + 1) := IntWalk.i64_in _ (by omega)
  have m2 : IntKind.i64.wrap (u * D) = u * D := IntWalk.i64_in _ (by omega)
  have d1 : decide (c ≤ u * (D + 1)) = true := decide_eq_true h1
  have d2 : decide (u * D ≤ c) = true := decide_eq_true h2
  have m3 : IntKind.i64.wrap (D + 1) = D + 1 := IntWalk.i64_in _ (by omega)
  clear S0 B0 K0 hI h1 h2 h3 h4
  have B1 : Hid (Blk ((w.alloc (.cells #[.int .i64 P, .int .i64 U, .int .i64 C] 66)).alloc (.cells #[.int .i64 P, .int .i64 U, .int .i64 C] 66)) (w.heap.size + 1) #[.int .i64 P, .int .i64 U, .int .i64 C] 66) := by
    have := Blk.made (w.alloc (.cells #[.int .i64 P, .int .i64 U, .int .i64 C] 66)) #[.int .i64 P, .int .i64 U, .int .i64 C] 66
    rwa [World.size_alloc] at this
  have B2 : Hid (Blk ((w.alloc (.cells #[.int .i64 P, .int .i64 U, .int .i64 C] 66)).alloc (.cells #[.int .i64 P, .int .i64 U, .int .i64 C] 66)) w.heap.size #[.int .i64 P, .int .i64 U, .int .i64 C] 66) := (Blk.made w _ _).alloc _
  have K0 : Hid (Kpt w ((w.alloc (.cells #[.int .i64 P, .int .i64 U, .int .i64 C] 66)).alloc (.cells #[.int .i64 P, .int .i64 U, .int .i64 C] 66))) := ((Kpt.refl w).alloc _).alloc _
  have R0 := Lib.hid (one_offer (g := 0) B1.out HI.out)
  have Q1 : Hid True := trivial
  have Q2 : Hid True := trivial
  have Q3 : Hid True := trivial
  clear B1
  have SI : Hid (∀ w' u v Y, Reads w' u Y → Reads w' v Y → Calls Try.prog 37 #[u, v] w' fun e w'' => e = .returned (.bool true) ∧ Kpt w' w'') := fun w' u v Y => sameI_run u v Y w'
  have RR : Hid (∀ w' g, Row w' g [u] → Reads w' (.slice (some ⟨g, 0, none⟩) 1 1) [u]) := fun w' g r => r.reads (by unfold maxLen; simp) 1
  go_enter Try.func12, Try.ntmps12
  go_wp2_with (first
    | (go_at_call 26; (with_reducible refine (S.out _ _ R0.out).mono ?_); rintro e w1 ⟨g1, rfl, _, r1, k1⟩; have K0 := Lib.hid (ktr K0.out k1); have R0 := Lib.hid (ReadsP.kpt R0.out k1); have B2 := Lib.hid (Blk.kpt B2.out k1); have Q1 := Lib.hid r1; clear k1 r1)
    | (go_at_call 27; (with_reducible refine (B.out _ _ R0.out).mono ?_); rintro e w1 ⟨g2, rfl, _, r1, k1⟩; have K0 := Lib.hid (ktr K0.out k1); have R0 := Lib.hid (ReadsP.kpt R0.out k1); have B2 := Lib.hid (Blk.kpt B2.out k1); have Q1 := Lib.hid (Row.kptL Q1.out k1); have Q2 := Lib.hid r1; clear k1 r1)
    | (go_at_call 34; (with_reducible refine (loanBegun _).mono ?_); rintro e w1 ⟨rfl, k1⟩; have K0 := Lib.hid (ktr K0.out k1); have R0 := Lib.hid (ReadsP.kpt R0.out k1); have B2 := Lib.hid (Blk.kpt B2.out k1); have Q1 := Lib.hid (Row.kptL Q1.out k1); have Q2 := Lib.hid (Row.kptL Q2.out k1); clear k1)
    | (go_at_call 28; (with_reducible refine (KB.out _ _ _ R0.out Q1.out).mono ?_); rintro e w1 ⟨a3, c3, rfl, r3, k1⟩; have K0 := Lib.hid (ktr K0.out k1); have B2 := Lib.hid (Blk.kpt B2.out k1); have Q1 := Lib.hid (Row.kptL Q1.out k1); have Q2 := Lib.hid (Row.kptL Q2.out k1); have Q3 := Lib.hid r3; clear k1 r3)
    | (go_at_call 37; (with_reducible refine (SI.out _ _ _ [u] (Reads.kpt (RR.out _ _ Q1.out) ((Kpt.refl _).alloc _)) (one_new _ u)).mono ?_); rintro e w1 ⟨rfl, k2⟩; have k1 := ktr ((Kpt.refl _).alloc _) k2; have K0 := Lib.hid (ktr K0.out k1); have B2 := Lib.hid (Blk.kpt B2.out k1); have Q1 := Lib.hid (Row.kptL Q1.out k1); have Q2 := Lib.hid (Row.kptL Q2.out k1); have Q3 := Lib.hid (Reads.kpt Q3.out k1); clear k1 k2)
    | (go_at_call 37; (with_reducible refine (SI.out _ _ _ [u] (RR.out _ _ Q2.out) (RR.out _ _ Q1.out)).mono ?_); rintro e w1 ⟨rfl, k1⟩; have K0 := Lib.hid (ktr K0.out k1); have B2 := Lib.hid (Blk.kpt B2.out k1); have Q3 := Lib.hid (Reads.kpt Q3.out k1); have c9 : World.cell? w1 ⟨w.heap.size, 2, none⟩ = some (.int .i64 C) := B2.out.cell 2; clear k1)
    | (go_at_call 37; (with_reducible refine (SI.out _ _ _ [0] (Reads.kpt Q3.out ((Kpt.refl _).alloc _)) (one_new _ 0)).mono ?_); rintro e w1 ⟨rfl, k2⟩; have k1 := ktr ((Kpt.refl _).alloc _) k2; have K0 := Lib.hid (ktr K0.out k1); clear k1 k2))
  go_ret
  exact ⟨rfl, K0.out⟩

theorem lone_plain (P U C u : Int) (w : World) (hI : (-9223372036854775808 ≤ P ∧ P ≤ 9223372036854775807) ∧ (-9223372036854775808 ≤ U ∧ U ≤ 9223372036854775807) ∧ -9223372036854775808 ≤ C ∧ C ≤ 9223372036854775807) (hu : -9223372036854775808 ≤ u ∧ u ≤ 9223372036854775807) :
    Calls Try.prog 12 #[.agg #[.int .i64 P, .int .i64 U, .int .i64 C], .int .i64 u] w fun x w' => x = .returned (.bool true) ∧ Kpt w w' := by
  have hI' : InP [(P, U, C)] := fun p hp => by
    obtain rfl : p = (P, U, C) := by simpa using hp
    exact hI
  by_cases hE : wantE [(P, U, C)] u = 0
  · obtain ⟨h0, h1, h2⟩ := want_0 hE
    obtain ⟨h40, hall⟩ := loan_0 h0
    have ho := off_t (hall (P, U, C) (by simp))
    simp only at ho
    have hw := unts_E hE
    have hs : u ≤ U := by simpa [unts] using h2
    have hc := cost_one (u := u) (C := C) ⟨by omega, h1.2⟩ ⟨ho.2.2.2.2.1, ho.2.2.2.2.2⟩
    have hb := best_one (P := P) (U := U) (C := C) hs
    have hp : pbs u (unts [(P, U, C)]) = [u] := pbs_one (by omega) hw
    refine lone_ok P U C u (u * C / 10000) 0 (C / 10000) w hI' ho.2.2.2.2.1 hc.2.2.2.2.1 hc.2.2.2.2.2 rfl hc.2.1 hc.1 hc.2.2.1 hc.2.2.2.1 ⟨by omega, h1.2⟩ (fun v w' r => ?_) (fun v w' r => ?_) (fun v g w' r q => ?_)
    · have := lshare_ok v _ u w' r hE
      rwa [hp] at this
    · have := best_ok v _ u w' r hE
      rwa [hb] at this
    · have rl : Reads w' (.slice (some ⟨g, 0, none⟩) 1 1) [u] := q.reads (by unfold maxLen; simp) 1
      have hl : lentE [(P, U, C)] [u] = 0 := by
        unfold lentE
        have e2 : lentB [(P, U, C)] [u] 0 = true := decide_eq_true ⟨by show 0 ≤ u; omega, hs⟩
        have e3 : (List.range ([(P, U, C)] : List (Int × Int × Int)).length).all (lentB [(P, U, C)] [u]) = true := by
          refine List.all_eq_true.2 fun k hk => ?_
          obtain rfl : k = 0 := by simpa using hk
          exact e2
        rw [if_pos h0, if_pos (show [u].length = ([(P, U, C)] : List (Int × Int × Int)).length from rfl), if_pos e3]
      refine (back_go v _ 1 _ [u] u w' r rl (fun z hz => by obtain rfl : z = u := by simpa using hz
                                                            exact hu) hl ⟨by omega, h1.2⟩).mono ?_
      rintro e w'' ⟨k, ⟨h, _⟩ | ⟨_, a, c, rfl, rr⟩⟩
      · simp at h
      · refine ⟨a, c, rfl, ?_, k⟩
        have e1 : bkL [u] u = [0] := by simp [bkL, bkR]
        rw [e1] at rr; exact rr
  · exact lone_no P U C u w hI' hE

end Go.Proofs.Ytmecggncedhehaa
