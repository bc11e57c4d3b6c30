/-
  What Sell, Has and Buy of package lots answer, whatever they are handed; SameLots of the reference.
-/
import Derived.Test.YtbohdhiadgcljaaLotC2
import Derived.Test.YtbohdhiadgcljaaLotC3
namespace Go.Proofs.Ytbohdhiadgcljaa
open Go.RowKit
set_option linter.unusedVariables false

theorem lot_neq (a b c d e f : Int) (w : World) : (binOp .neq 45 (.agg #[.int .i64 a, .int .i64 b, .int .i64 c]) (.agg #[.int .i64 d, .int .i64 e, .int .i64 f])).run Try.prog w = .ok (.bool (!decide ((a, b, c) = (d, e, f)))) w := by
  have u3 := Try.underlying3
  have hS : Try.prog.underlying 45 = some (.struct (Try.prog.fieldsOf 45)) := by kernel_rfl
  have hp : Try.prog.stoodInHeld 45 = false := by kernel_rfl
  have a3 : ∀ w, (isAgg 3).run Try.prog w = .ok false w := fun w => by kernel_rfl
  have h : ∀ w, (Op.equalIn (9999 + 1) 45 (.agg #[.int .i64 a, .int .i64 b, .int .i64 c]) (.agg #[.int .i64 d, .int .i64 e, .int .i64 f])).run Try.prog w = .ok (decide ((a, b, c) = (d, e, f))) w := fun w => by
    rw [run_equalIn_agg w 9999 45 _ _ hS hp]
    simp only [Program.fieldsOf, Try.underlying45]
    go_simp
    by_cases h1 : a = d <;> by_cases h2 : b = e <;> by_cases h3 : c = f <;> simp [h1, h2, h3]
  simp only [binOp, Op.equal, Op.maxDepth, Sem.run_bind]
  rw [show (10000 : Nat) = 9999 + 1 from rfl, h]
  simp

theorem sameL_len (a1 a2 : Option Addr) (n1 n2 c1 c2 : Nat) (w : World) (h : n1 ≠ n2) : Calls Try.prog 33 #[.slice a1 n1 c1, .slice a2 n2 c2] w fun e w' => e = .returned (.bool false) ∧ Kpt w w' := by
  have q : ((n1 : Int) != (n2 : Int)) = true := bne_iff_ne.2 (by omega)
  go_enter Try.func33, Try.ntmps33
  go_wp2
  go_ret
  exact ⟨rfl, Kpt.refl _⟩

theorem sameL_none (a1 a2 : Option Addr) (c1 c2 : Nat) (w : World) : Calls Try.prog 33 #[.slice a1 0 c1, .slice a2 0 c2] w fun e w' => e = .returned (.bool true) ∧ Kpt w w' := by
  go_enter Try.func33, Try.ntmps33
  go_wp2
  go_loop [5] (fun i => i = .int .i64 0) (fun _ => 0)
  case atStart => exact rfl
  case round =>
    obtain rfl := hrel
    go_wp2
    go_ret
    exact ⟨rfl, Kpt.refl _⟩

set_option maxHeartbeats 1000000 in
theorem sameL_some (b1 o1 c1 b2 o2 c2 : Nat) (ps : List (Int × Int × Int)) (w : World) (hm : ps.length ≤ maxLen) (h1 : ∀ j, j < ps.length → PtAt w b1 (o1 + j * 3) (ps.getD j default)) (h2 : ∀ j, j < ps.length → PtAt w b2 (o2 + j * 3) (ps.getD j default)) :
    Calls Try.prog 33 #[.slice (some ⟨b1, o1, none⟩) ps.length c1, .slice (some ⟨b2, o2, none⟩) ps.length c2] w fun e w' => e = .returned (.bool true) ∧ Kpt w w' := by
  unfold maxLen at hm
  have H1 := Lib.hid h1; have H2 := Lib.hid h2
  clear h1 h2
  go_enter Try.func33, Try.ntmps33
  go_wp2
  go_loopw [5] (fun i wr => ∃ k : Nat, k ≤ ps.length ∧ i = .int .i64 k ∧ Hid (Kpt w wr)) (fun i _ => ps.length - (intOf i).toNat)
  case atStart => exact ⟨0, Nat.zero_le _, rfl, Kpt.refl _⟩
  case round =>
    obtain ⟨k, hk, rfl, HK⟩ := hrel
    by_cases hlt : k < ps.length
    · obtain ⟨c0, c1, c2⟩ := (H1.out k hlt).kpt HK.out
      obtain ⟨d0, d1, d2⟩ := (H2.out k hlt).kpt HK.out
      generalize ps.getD k default = p at c0 c1 c2 d0 d1 d2
      obtain ⟨A, U, N⟩ := p
      simp only at c0 c1 c2 d0 d1 d2
      have qn := lot_neq A U N A U N
      rw [decide_eq_true rfl, Bool.not_true] at qn
      have b0 : (0 : Int) ≤ (k : Int) := by omega
      have b1 : (k : Int) < (ps.length : Int) := by omega
      go_wp2
      go_quiet (fail)
      go_wp2
      go_roundw
      case rel => exact ⟨k + 1, by omega, by go_num, Kpt.drewN HK.out _⟩
      case measure => simp [intOf]; omega
    · go_wp2
      go_ret
      exact ⟨rfl, HK.out⟩

theorem sameL_any (v u : Value) (ps : List (Int × Int × Int)) (w : World) (h1 : ReadsP w v ps) (h2 : ReadsP w u ps) : Calls Try.prog 33 #[v, u] w fun e w' => e = .returned (.bool true) ∧ Kpt w w' := by
  have hm := h1.len
  rcases h1.cell with ⟨rfl, a, c, rfl⟩ | ⟨h0, b1, o1, c1, rfl, k1⟩
  · rcases h2.cell with ⟨_, a', c', rfl⟩ | ⟨h0, _⟩
    · exact sameL_none a a' c c' w
    · simp at h0
  · rcases h2.cell with ⟨e, _⟩ | ⟨_, b2, o2, c2, rfl, k2⟩
    · rw [e] at h0; simp at h0
    · exact sameL_some b1 o1 c1 b2 o2 c2 ps w hm k1 k2


/-- the error of a sale -/
def sellE (l : List (Int × Int × Int)) (u k : Int) : Int := if lotsE l ≠ 0 then lotsE l else if k < 1 ∨ 3 < k then 7 else if u < 1 ∨ 42949672960 < u then 3 else if unitsOf l < u then 5 else 0
def SellRes (w : World) (l : List (Int × Int × Int)) (u k : Int) (e : Ending) (w' : World) : Prop :=
  (sellE l u k ≠ 0 ∧ Kpt w w' ∧ e = .returned (.tuple #[.slice none 0 0, .int .i64 0, .int .i64 (sellE l u k)])) ∨ (sellE l u k = 0 ∧ SellOk w (sellL (pickK k) l.length l u).1 (sellL (pickK k) l.length l u).2 e w')
theorem choice_ok (k : Int) (w : World) (h1 : 1 ≤ k) (h3 : k ≤ 3) : Calls Try.prog 47 #[.int .i64 k] w fun e w' => e = .returned (.tuple #[.func (.func (fOf k)) #[] #[], .int .i64 0]) ∧ w = w' := by
  rcases (show k = 1 ∨ k = 2 ∨ k = 3 by omega) with rfl | rfl | rfl
  · exact choice_1 w
  · exact choice_2 w
  · exact choice_3 w

theorem sell_e1 (v : Value) (l : List (Int × Int × Int)) (u k : Int) (w : World) (hr : ReadsP w v l) (h : lotsE l ≠ 0) : Calls Try.prog 26 #[v, .int .i64 u, .int .i64 k] w fun e w' => e = .returned (.tuple #[.slice none 0 0, .int .i64 0, .int .i64 (lotsE l)]) ∧ Kpt w w' := by
  have LC := Lib.hid (lotsCheck_any v l w hr)
  have q : (lotsE l != 0) = true := bne_iff_ne.2 h
  clear h hr
  generalize lotsE l = E at *
  go_enter Try.func26, Try.ntmps26
  go_wp2_with (go_at_call 32; (with_reducible refine LC.out.mono ?_); rintro e w1 ⟨rfl, g1⟩)
  exact bodyPost_ret (v := .tuple #[.slice none 0 0, .int .i64 0, .int .i64 E]) (by simp [results, Try.results26, go_sem]) rfl ⟨rfl, g1.kpt⟩
theorem sell_e2 (v : Value) (l : List (Int × Int × Int)) (u k : Int) (w : World) (hr : ReadsP w v l) (h : lotsE l = 0) (hk : k < 1 ∨ 3 < k) : Calls Try.prog 26 #[v, .int .i64 u, .int .i64 k] w fun e w' => e = .returned (.tuple #[.slice none 0 0, .int .i64 0, .int .i64 7]) ∧ Kpt w w' := by
  have LC := Lib.hid (h ▸ lotsCheck_any v l w hr)
  have CH := Lib.hid (fun w => choice_no k w hk)
  clear h hr hk
  go_enter Try.func26, Try.ntmps26
  go_wp2_with (first
    | (go_at_call 32; (with_reducible refine LC.out.mono ?_); rintro e w1 ⟨rfl, g1⟩)
    | (go_at_call 47; (with_reducible refine (CH.out _).mono ?_); rintro e w' ⟨rfl, rfl⟩))
  exact bodyPost_ret (v := .tuple #[.slice none 0 0, .int .i64 0, .int .i64 7]) (by simp [results, Try.results26, go_sem]) rfl ⟨rfl, g1.kpt⟩
theorem sell_e3 (v : Value) (l : List (Int × Int × Int)) (u k : Int) (w : World) (hr : ReadsP w v l) (h : lotsE l = 0) (h1 : 1 ≤ k) (h3 : k ≤ 3) (hu : u < 1 ∨ 42949672960 < u) : Calls Try.prog 26 #[v, .int .i64 u, .int .i64 k] w fun e w' => e = .returned (.tuple #[.slice none 0 0, .int .i64 0, .int .i64 3]) ∧ Kpt w w' := by
  have LC := Lib.hid (h ▸ lotsCheck_any v l w hr)
  have CH := Lib.hid (fun w => choice_ok k w h1 h3)
  clear h hr
  generalize fOf k = f at *
  by_cases hu1 : u < 1
  · clear hu
    go_enter Try.func26, Try.ntmps26
    go_wp2_with (first
      | (go_at_call 32; (with_reducible refine LC.out.mono ?_); rintro e w1 ⟨rfl, g1⟩)
      | (go_at_call 47; (with_reducible refine (CH.out _).mono ?_); rintro e w' ⟨rfl, rfl⟩))
    exact bodyPost_ret (v := .tuple #[.slice none 0 0, .int .i64 0, .int .i64 3]) (by simp [results, Try.results26, go_sem]) rfl ⟨rfl, g1.kpt⟩
  · have hu2 : 42949672960 < u := hu.resolve_left hu1
    have hu3 : decide (u < 1) = false := decide_eq_false hu1
    clear hu
    go_enter Try.func26, Try.ntmps26
    go_wp2_with (first
      | (go_at_call 32; (with_reducible refine LC.out.mono ?_); rintro e w1 ⟨rfl, g1⟩)
      | (go_at_call 47; (with_reducible refine (CH.out _).mono ?_); rintro e w' ⟨rfl, rfl⟩))
    exact bodyPost_ret (v := .tuple #[.slice none 0 0, .int .i64 0, .int .i64 3]) (by simp [results, Try.results26, go_sem]) rfl ⟨rfl, g1.kpt⟩
theorem sell_e5 (v : Value) (l : List (Int × Int × Int)) (u k : Int) (w : World) (hr : ReadsP w v l) (h : lotsE l = 0) (h1 : 1 ≤ k) (h3 : k ≤ 3) (u0 : 1 ≤ u) (u1 : u ≤ 42949672960) (hu : unitsOf l < u) : Calls Try.prog 26 #[v, .int .i64 u, .int .i64 k] w fun e w' => e = .returned (.tuple #[.slice none 0 0, .int .i64 0, .int .i64 5]) ∧ Kpt w w' := by
  have LC := Lib.hid (h ▸ lotsCheck_any v l w hr)
  have CH := Lib.hid (fun w => choice_ok k w h1 h3)
  have SU := Lib.hid (fun w hr => sums_run v l w hr (lots_0 h).2.2 (lots_0 h).1)
  have RL := Lib.hid hr
  clear h hr
  generalize fOf k = f at *
  generalize unitsOf l = us at *
  generalize costsOf l = cs at *
  go_enter Try.func26, Try.ntmps26
  go_wp2_with (first
    | (go_at_call 32; (with_reducible refine LC.out.mono ?_); rintro e w1 ⟨rfl, g1⟩; have K1 := Lib.hid g1.kpt; clear g1)
    | (go_at_call 47; (with_reducible refine (CH.out _).mono ?_); rintro e w' ⟨rfl, rfl⟩)
    | (go_at_call 48; (with_reducible refine (SU.out _ (RL.out.kpt K1.out)).mono ?_); rintro e w2 ⟨rfl, g2⟩; have K2 := Lib.hid (ktr K1.out g2.kpt); clear g2))
  exact bodyPost_ret (v := .tuple #[.slice none 0 0, .int .i64 0, .int .i64 5]) (by simp [results, Try.results26, go_sem]) rfl ⟨rfl, K2.out⟩
theorem sell_ok (v : Value) (l : List (Int × Int × Int)) (u k : Int) (w : World) (hr : ReadsP w v l) (hE : lotsE l = 0) (k1 : 1 ≤ k) (k3 : k ≤ 3) (h1 : 1 ≤ u) (h2 : u ≤ unitsOf l) :
    Calls Try.prog 26 #[v, .int .i64 u, .int .i64 k] w (SellOk w (sellL (pickK k) l.length l u).1 (sellL (pickK k) l.length l u).2) := by
  rcases (show k = 1 ∨ k = 2 ∨ k = 3 by omega) with rfl | rfl | rfl
  · exact sell_ok1 v l u w hr hE h1 h2
  · exact sell_ok2 v l u w hr hE h1 h2
  · exact sell_ok3 v l u w hr hE h1 h2
theorem sell_any (v : Value) (l : List (Int × Int × Int)) (u k : Int) (w : World) (hr : ReadsP w v l) : Calls Try.prog 26 #[v, .int .i64 u, .int .i64 k] w (SellRes w l u k) := by
  by_cases h : lotsE l = 0
  · by_cases hk : k < 1 ∨ 3 < k
    · have e : sellE l u k = 7 := by unfold sellE; rw [if_neg (by simpa using h), if_pos hk]
      refine (sell_e2 v l u k w hr h hk).mono fun _ _ ⟨h1, h2⟩ => .inl ⟨by rw [e]; decide, h2, by rw [e]; exact h1⟩
    · by_cases hu : u < 1 ∨ 42949672960 < u
      · have e : sellE l u k = 3 := by unfold sellE; rw [if_neg (by simpa using h), if_neg hk, if_pos hu]
        refine (sell_e3 v l u k w hr h (by omega) (by omega) hu).mono fun _ _ ⟨h1, h2⟩ => .inl ⟨by rw [e]; decide, h2, by rw [e]; exact h1⟩
      · by_cases hs : unitsOf l < u
        · have e : sellE l u k = 5 := by unfold sellE; rw [if_neg (by simpa using h), if_neg hk, if_neg hu, if_pos hs]
          refine (sell_e5 v l u k w hr h (by omega) (by omega) (by omega) (by omega) hs).mono fun _ _ ⟨h1, h2⟩ => .inl ⟨by rw [e]; decide, h2, by rw [e]; exact h1⟩
        · have e : sellE l u k = 0 := by unfold sellE; rw [if_neg (by simpa using h), if_neg hk, if_neg hu, if_neg hs]
          exact (sell_ok v l u k w hr h (by omega) (by omega) (by omega) (by omega)).mono fun _ _ h => .inr ⟨e, h⟩
  · have e : sellE l u k = lotsE l := by unfold sellE; rw [if_pos h]
    refine (sell_e1 v l u k w hr h).mono fun _ _ ⟨h1, h2⟩ => .inl ⟨by rw [e]; exact h, h2, by rw [e]; exact h1⟩

theorem has_no (v : Value) (l : List (Int × Int × Int)) (w : World) (hr : ReadsP w v l) (h : lotsE l ≠ 0) : Calls Try.prog 27 #[v] w fun e w' => e = .returned (.tuple #[.int .i64 0, .int .i64 0, .int .i64 (lotsE l)]) ∧ Kpt w w' := by
  have LC := Lib.hid (lotsCheck_any v l w hr)
  have q : (lotsE l != 0) = true := bne_iff_ne.2 h
  clear h hr
  generalize lotsE l = E at *
  go_enter Try.func27, Try.ntmps27
  go_wp2_with (go_at_call 32; (with_reducible refine LC.out.mono ?_); rintro e w1 ⟨rfl, g1⟩)
  exact bodyPost_ret (v := .tuple #[.int .i64 0, .int .i64 0, .int .i64 E]) (by simp [results, Try.results27, go_sem]) rfl ⟨rfl, g1.kpt⟩
theorem has_ok (v : Value) (l : List (Int × Int × Int)) (w : World) (hr : ReadsP w v l) (h : lotsE l = 0) : Calls Try.prog 27 #[v] w fun e w' => e = .returned (.tuple #[.int .i64 (unitsOf l), .int .i64 (costsOf l), .int .i64 0]) ∧ Kpt w w' := by
  have LC := Lib.hid (h ▸ lotsCheck_any v l w hr)
  have SU := Lib.hid (fun w hr => sums_run v l w hr (lots_0 h).2.2 (lots_0 h).1)
  have RL := Lib.hid hr
  clear h hr
  generalize unitsOf l = us at *
  generalize costsOf l = cs at *
  go_enter Try.func27, Try.ntmps27
  go_wp2_with (first
    | (go_at_call 32; (with_reducible refine LC.out.mono ?_); rintro e w1 ⟨rfl, g1⟩; have K1 := Lib.hid g1.kpt; clear g1)
    | (go_at_call 48; (with_reducible refine (SU.out _ (RL.out.kpt K1.out)).mono ?_); rintro e w2 ⟨rfl, g2⟩; have K2 := Lib.hid (ktr K1.out g2.kpt); clear g2))
  exact bodyPost_ret (v := .tuple #[.int .i64 us, .int .i64 cs, .int .i64 0]) (by simp [results, Try.results27, go_sem]) rfl ⟨rfl, K2.out⟩

theorem reads_oneL (w : World) (p : Int × Int × Int) (T : TypeId) (hp : InP [p]) : ReadsP (w.alloc (.cells #[.int .i64 p.1, .int .i64 p.2.1, .int .i64 p.2.2] T)) (.slice (some ⟨w.heap.size, 0, none⟩) 1 1) [p] := by
  refine ⟨_, 1, rfl, (fun e => by cases e), by unfold maxLen; simp, hp, fun j hj => ⟨w.heap.size, 0, rfl, ?_⟩⟩
  obtain rfl : j = 0 := by simpa using hj
  have B := Blk.made w #[.int .i64 p.1, .int .i64 p.2.1, .int .i64 p.2.2] T
  exact ⟨B.cell 0, B.cell 1, B.cell 2⟩
theorem concatL1 (W0 : World) (b x : Nat) (a1 : Option Addr) (c1 : Nat) (ps : List (Int × Int × Int)) (q : Int × Int × Int) (hc0 : W0.cell? ⟨b, 0, none⟩ = some (.slice a1 ps.length c1)) (hc1 : W0.cell? ⟨b, 1, none⟩ = some (.slice (some ⟨x, 0, none⟩) 1 1))
    (R1 : ReadsP W0 (.slice a1 ps.length c1) ps) (R2 : ReadsP W0 (.slice (some ⟨x, 0, none⟩) 1 1) [q]) (hm : ps.length ≤ 40) :
    Calls Try.prog 46 #[.slice (some ⟨b, 0, none⟩) 2 2] W0 fun e w' => (∃ v, e = .returned v ∧ OwnsT 45 w' W0.heap.size v (ps ++ [q])) ∧ Kpt W0 w' :=
  concatL W0 b a1 (some ⟨x, 0, none⟩) c1 1 ps [q] hc0 hc1 R1 R2 (by simp) (by simp; omega)

/-- what Buy answers -/
def BuyRes (w : World) (l : List (Int × Int × Int)) (q : Int × Int × Int) (e : Ending) (w' : World) : Prop :=
  Kpt w w' ∧ ((lotsE (l ++ [q]) ≠ 0 ∧ e = .returned (.tuple #[.slice none 0 0, .int .i64 (lotsE (l ++ [q]))])) ∨ (lotsE (l ++ [q]) = 0 ∧ ∃ a c, e = .returned (.tuple #[.slice a (l ++ [q]).length c, .int .i64 0]) ∧ OwnsT 45 w' w.heap.size (.slice a (l ++ [q]).length c) (l ++ [q])))
theorem buy_many (v : Value) (l : List (Int × Int × Int)) (q : Int × Int × Int) (w : World) (hr : ReadsP w v l) (h : 40 ≤ l.length) : Calls Try.prog 25 #[v, .agg #[.int .i64 q.1, .int .i64 q.2.1, .int .i64 q.2.2]] w (BuyRes w l q) := by
  have e : lotsE (l ++ [q]) = 2 := by unfold lotsE; rw [if_pos (by simp; omega)]
  have E := Lib.hid e
  have hm := hr.len
  unfold maxLen at hm
  obtain ⟨a, cap, rfl, -⟩ := hr
  have hn : (40 : Int) ≤ (l.length : Int) := by omega
  obtain ⟨q0, q1, q2⟩ := q
  clear e
  go_enter Try.func25, Try.ntmps25
  go_wp2
  go_ret2
  exact ⟨(Kpt.refl _).alloc _, .inl ⟨by rw [E.out]; decide, by rw [E.out]; rfl⟩⟩
set_option maxHeartbeats 1000000 in
theorem buy_few (v : Value) (l : List (Int × Int × Int)) (q : Int × Int × Int) (w : World) (hr : ReadsP w v l) (hq : InP [q]) (h : l.length < 40) : Calls Try.prog 25 #[v, .agg #[.int .i64 q.1, .int .i64 q.2.1, .int .i64 q.2.2]] w (BuyRes w l q) := by
  have RL := Lib.hid hr
  have RQ := Lib.hid (fun w => reads_oneL w q 45 hq)
  have HI : Hid (InP (l ++ [q])) := fun p hp => by
    rcases List.mem_append.1 hp with h | h
    · exact hr.fits p h
    · exact hq p h
  obtain ⟨a, cap, rfl, -⟩ := id hr
  have hn : decide ((40 : Int) ≤ (l.length : Int)) = false := decide_eq_false (by omega)
  have LC := Lib.hid (fun v w hr => lotsCheck_any v (l ++ [q]) w hr)
  obtain ⟨m, hm⟩ : ∃ m, m = l ++ [q] := ⟨_, rfl⟩
  have HM := Lib.hid hm
  clear hr hq hm
  generalize hE : lotsE (l ++ [q]) = E at LC
  have HE := Lib.hid hE
  clear hE
  obtain ⟨q0, q1, q2⟩ := q
  simp only at RQ
  by_cases h0 : E = 0
  · subst h0
    go_enter Try.func25, Try.ntmps25
    go_wp2_with (first
      | (go_at_call 46; (with_reducible refine (concatL1 _ _ _ a cap l (q0, q1, q2) (by simp [go_sem]) (by simp [go_sem]) (RL.out.kpt (((Kpt.refl _).alloc _).alloc _ |>.alloc _)) ((RQ.out (w.alloc (.cells #[.int .i64 q0, .int .i64 q1, .int .i64 q2] 45))).kpt ((Kpt.refl _).alloc _)) (by omega)).mono ?_); rintro e w2 ⟨⟨va, rfl, ho⟩, k2⟩; obtain ⟨a2, n2, c2, rfl, HN2⟩ := ho.formN; have HO2 := Lib.hid ho; have K2 := Lib.hid (ktr (((Kpt.refl w).alloc _).alloc _ |>.alloc _) k2); have HS := Lib.hid k2.size; clear ho k2)
      | (go_at_call 32; (with_reducible refine (LC.out _ _ (HO2.out.reads HI.out)).mono ?_); rintro e w3 ⟨rfl, g3⟩; have HO3 := Lib.hid (HO2.out.kpt g3.kpt); have K3 := Lib.hid (ktr K2.out g3.kpt); clear g3))
    go_ret2
    have e := HN2.out
    subst e
    exact ⟨K3.out, .inr ⟨HE.out, a2, c2, rfl, HO3.out.base (by simp; omega)⟩⟩
  · have hE2 : (E != 0) = true := bne_iff_ne.2 h0
    have H0 := Lib.hid h0
    clear h0
    go_enter Try.func25, Try.ntmps25
    go_wp2_with (first
      | (go_at_call 46; (with_reducible refine (concatL1 _ _ _ a cap l (q0, q1, q2) (by simp [go_sem]) (by simp [go_sem]) (RL.out.kpt (((Kpt.refl _).alloc _).alloc _ |>.alloc _)) ((RQ.out (w.alloc (.cells #[.int .i64 q0, .int .i64 q1, .int .i64 q2] 45))).kpt ((Kpt.refl _).alloc _)) (by omega)).mono ?_); rintro e w2 ⟨⟨va, rfl, ho⟩, k2⟩; obtain ⟨a2, n2, c2, rfl, HN2⟩ := ho.formN; have HO2 := Lib.hid ho; have K2 := Lib.hid (ktr (((Kpt.refl w).alloc _).alloc _ |>.alloc _) k2); clear ho k2)
      | (go_at_call 32; (with_reducible refine (LC.out _ _ (HO2.out.reads HI.out)).mono ?_); rintro e w3 ⟨rfl, g3⟩; have K3 := Lib.hid (ktr K2.out g3.kpt); clear g3))
    go_ret2
    exact ⟨K3.out, .inl ⟨by rw [HE.out]; exact H0.out, by rw [HE.out]; rfl⟩⟩
theorem buy_any (v : Value) (l : List (Int × Int × Int)) (q : Int × Int × Int) (w : World) (hr : ReadsP w v l) (hq : InP [q]) : Calls Try.prog 25 #[v, .agg #[.int .i64 q.1, .int .i64 q.2.1, .int .i64 q.2.2]] w (BuyRes w l q) := by
  by_cases h : l.length < 40
  · exact buy_few v l q w hr hq h
  · exact buy_many v l q w hr (by omega)

end Go.Proofs.Ytbohdhiadgcljaa
