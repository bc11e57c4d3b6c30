/-
  BookTurn, BookOrder, BookSplit: the walks.
-/
import Derived.Test.YtcpfldlcocencaaBookQ
namespace Go.Proofs.Ytcpfldlcocencaa
open Go.RowKit
set_option linter.unusedVariables false

/-- what a post answers: an error and nothing, or the book -/
def PostSplit (w : World) (b l : List (Int × Int × Int)) (e : Ending) (w' : World) : Prop :=
  Hid (Kpt w w') ∧ ((∃ (E : Int) (a : Option Addr) (c : Nat), (E == 0) = false ∧ (E != 0) = true ∧ Hid (ReadsP w' (.slice a 0 c) []) ∧ e = .returned (.tuple #[.slice a 0 c, .int .i64 E])) ∨
    (∃ (R : List (Int × Int × Int)) (a : Option Addr) (c : Nat), Hid (Posted b l R) ∧ Hid (ReadsP w' (.slice a R.length c) R) ∧ e = .returned (.tuple #[.slice a R.length c, .int .i64 0])))
theorem post_split (v u : Value) (b l : List (Int × Int × Int)) (w : World) (hb : ReadsP w v b) (hl : ReadsP w u l) : Calls Try.prog 10 #[v, u] w (PostSplit w b l) := by
  refine (post_any v u b l w hb hl).mono ?_
  rintro e w' ⟨hk, R, E, v', hr, ho, rfl⟩
  obtain ⟨a, c, rfl⟩ := ho.form
  rcases post_cases hr with ⟨hE, rfl⟩ | ⟨rfl, P⟩
  · exact ⟨hk, .inl ⟨E, a, c, beq_eq_false_iff_ne.2 hE, bne_iff_ne.2 hE, ho.reads (by simp [InP]), rfl⟩⟩
  · exact ⟨hk, .inr ⟨R, a, c, P, ho.reads (inP_of (strict_pt P.book.strict)), rfl⟩⟩
def PostSized (w : World) (b l : List (Int × Int × Int)) (e : Ending) (w' : World) : Prop :=
  Hid (Kpt w w') ∧ ((∃ (a : Option Addr) (c : Nat), e = .returned (.tuple #[.slice a 0 c, .int .i64 8])) ∨ (∃ (a : Option Addr) (c : Nat), e = .returned (.tuple #[.slice a 0 c, .int .i64 2])) ∨
    (∃ (R : List (Int × Int × Int)) (a : Option Addr) (c : Nat), Hid (Posted b l R) ∧ Hid (ReadsP w' (.slice a R.length c) R) ∧ e = .returned (.tuple #[.slice a R.length c, .int .i64 0])))
theorem post_sized (v u : Value) (b l : List (Int × Int × Int)) (w : World) (hb : ReadsP w v b) (hl : ReadsP w u l) (h0 : linE b = 0) (h1 : chkE l = 0) : Calls Try.prog 10 #[v, u] w (PostSized w b l) := by
  refine (post_any v u b l w hb hl).mono ?_
  rintro e w' ⟨hk, R, E, v', hr, ho, rfl⟩
  obtain ⟨a, c, rfl⟩ := ho.form
  rcases post_size hr h0 h1 with ⟨rfl, rfl⟩ | ⟨rfl, rfl⟩ | ⟨rfl, P⟩
  · exact ⟨hk, .inl ⟨a, c, rfl⟩⟩
  · exact ⟨hk, .inr (.inl ⟨a, c, rfl⟩)⟩
  · exact ⟨hk, .inr (.inr ⟨R, a, c, P, ho.reads (inP_of (strict_pt P.book.strict)), rfl⟩)⟩
theorem turn_errs (v : Value) (l : List (Int × Int × Int)) (w : World) (hl : ReadsP w v l) (h : chkE l ≠ 0) : Calls Try.prog 12 #[v] w fun e w' => e = .returned (.tuple #[.slice none 0 0, .int .i64 (chkE l)]) ∧ Hid (Kpt w w') := by
  refine (turn_any v l w hl).mono ?_
  rintro e w' ⟨hk, ⟨_, rfl⟩ | ⟨h1, _⟩⟩
  · exact ⟨rfl, hk⟩
  · exact absurd h1 h
theorem turn_again (v : Value) (l : List (Int × Int × Int)) (w : World) (hl : ReadsP w v (turnP l)) (h : chkE l = 0) :
    Calls Try.prog 12 #[v] w fun e w' => ∃ a cap, e = .returned (.tuple #[.slice a l.length cap, .int .i64 0]) ∧ Hid (ReadsP w' (.slice a l.length cap) l) ∧ Hid (Kpt w w') := by
  refine (turn_goes v (turnP l) w hl (turn_chk h)).mono ?_
  rintro e w' ⟨a, c, rfl, h1, h2⟩
  rw [turn_len, turn_turn] at h1
  rw [turn_len]
  exact ⟨a, c, rfl, h1, h2⟩

set_option maxHeartbeats 1000000 in
theorem bookTurn_bad (v u : Value) (b l : List (Int × Int × Int)) (w : World) (hl : ReadsP w u l) (h : chkE l ≠ 0) : Calls Try.prog 5 #[v, u] w fun e w' => e = .returned (.bool true) ∧ Kpt w w' := by
  have TB := Lib.hid (turn_errs u l w hl h)
  have q : (chkE l != 0) = true := bne_iff_ne.2 h
  clear h hl
  generalize chkE l = E at *
  go_enter Try.func5, Try.ntmps5
  go_wp2_with (first
    | (go_at_call 12; (with_reducible refine TB.out.mono ?_); rintro e w1 ⟨rfl, k1⟩)
    | (go_at_call 19; (with_reducible refine (bookBegun _).mono ?_); rintro e w2 ⟨rfl, k2⟩; have K2 := Lib.hid (ktr k1.out k2); clear k2))
  go_ret
  exact ⟨rfl, K2.out⟩

set_option maxRecDepth 100000 in
set_option maxHeartbeats 2000000 in
theorem bookTurn_ok (v u : Value) (b l : List (Int × Int × Int)) (w : World) (hb : ReadsP w v b) (hl : ReadsP w u l) (h : chkE l = 0) : Calls Try.prog 5 #[v, u] w fun e w' => e = .returned (.bool true) ∧ Kpt w w' := by
  have TB := Lib.hid (turn_goes u l w hl h)
  have RB := Lib.hid hb; have RL := Lib.hid hl; have H := Lib.hid h
  clear hb hl h
  go_enter Try.func5, Try.ntmps5
  go_wp2_with (first
    | (go_at_call 12; (with_reducible refine TB.out.mono ?_); rintro e w1 ⟨a1, c1, rfl, T1, K1⟩)
    | (go_at_call 19; (with_reducible refine (bookBegun _).mono ?_); rintro e w2 ⟨rfl, k2⟩; have T2 := Lib.hid (T1.out.kpt k2); have K2 := Lib.hid (ktr K1.out k2); clear k2)
    | (go_at_call 12; (with_reducible refine (turn_again _ l _ T2.out H.out).mono ?_); rintro e w3 ⟨a3, c3, rfl, A3, k3⟩; have T3 := Lib.hid (T2.out.kpt k3.out); have K3 := Lib.hid (ktr K2.out k3.out); clear k3)
    | (go_at_call 22; (with_reducible refine (same_any _ _ l _ A3.out (RL.out.kpt K3.out)).mono ?_); rintro e w4 ⟨rfl, k4⟩; have T4 := Lib.hid (T3.out.kpt k4); have K4 := Lib.hid (ktr K3.out k4); clear k4)
    | (go_at_call 10; (with_reducible refine (post_split v u b l _ (RB.out.kpt K4.out) (RL.out.kpt K4.out)).mono ?_); rintro e w5 ⟨k5, ⟨E, a5, c5, q1, q2, -, rfl⟩ | ⟨R, a5, c5, P5, R5, rfl⟩⟩ <;> (have K5 := Lib.hid (ktr K4.out k5.out); have T5 := Lib.hid (T4.out.kpt k5.out); clear k5))
    | (go_at_call 10; (with_reducible refine (post_goes _ _ R (turnP l) b _ R5.out T5.out P5.out.back).mono ?_); rintro e w6 ⟨a6, c6, rfl, R6, k6⟩; have K6 := Lib.hid (ktr K5.out k6.out); clear k6)
    | (go_at_call 22; (with_reducible refine (same_any _ _ b _ R6.out (RB.out.kpt K6.out)).mono ?_); rintro e w7 ⟨rfl, k7⟩; have K7 := Lib.hid (ktr K6.out k7); clear k7))
  · go_ret
    exact ⟨rfl, K5.out⟩
  · go_ret
    exact ⟨rfl, K7.out⟩

theorem bookTurn_walk (v u : Value) (b l : List (Int × Int × Int)) (w : World) (hb : ReadsP w v b) (hl : ReadsP w u l) : Calls Try.prog 5 #[v, u] w fun e w' => e = .returned (.bool true) ∧ Kpt w w' := by
  by_cases h : chkE l = 0
  · exact bookTurn_ok v u b l w hb hl h
  · exact bookTurn_bad v u b l w hl h

theorem order_at {b l m x y p q : List (Int × Int × Int)} (hx : Posted b l x) (hy : Posted b m y) (hp : Posted x m p) (hq : Posted y l q) {w : World} {a : Option Addr} {c : Nat} (h : ReadsP w (.slice a q.length c) q) : ReadsP w (.slice a q.length c) p := Posted.order hx hy hp hq ▸ h

set_option maxRecDepth 100000 in
set_option maxHeartbeats 4000000 in
theorem bookOrder_walk (v u t : Value) (b l m : List (Int × Int × Int)) (w : World) (hb : ReadsP w v b) (hl : ReadsP w u l) (hm : ReadsP w t m) : Calls Try.prog 6 #[v, u, t] w fun e w' => e = .returned (.bool true) ∧ Kpt w w' := by
  have RB := Lib.hid hb; have RL := Lib.hid hl; have RM := Lib.hid hm
  have PX := Lib.hid (post_split v u b l w hb hl)
  clear hb hl hm
  go_enter Try.func6, Try.ntmps6
  go_wp2_with (first
    | (go_at_call 10; (with_reducible refine PX.out.mono ?_); rintro e w1 ⟨K1, ⟨E, a1, c1, q1, q2, X1, rfl⟩ | ⟨x, a1, c1, P1, R1, rfl⟩⟩)
    | (go_at_call 10; (with_reducible refine (post_split v t b m _ (RB.out.kpt K1.out) (RM.out.kpt K1.out)).mono ?_); rintro e w2 ⟨k2, ⟨F, a2, c2, q3, q4, -, rfl⟩ | ⟨y, a2, c2, P2, R2, rfl⟩⟩ <;> (have K2 := Lib.hid (ktr K1.out k2.out)))
    | (go_at_call 19; (with_reducible refine (bookBegun _).mono ?_); rintro e w3 ⟨rfl, k3⟩; have K3 := Lib.hid (ktr K2.out k3); have J3 := Lib.hid k3; clear k3)
    | (go_at_call 10; (with_reducible refine (post_sized _ t x m _ (R1.out.kpt (ktr k2.out J3.out)) (RM.out.kpt K3.out) P1.out.lines P2.out.chk).mono ?_); rintro e w4 ⟨k4, ⟨a4, c4, rfl⟩ | ⟨a4, c4, rfl⟩ | ⟨p, a4, c4, P4, R4, rfl⟩⟩ <;> (have K4 := Lib.hid (ktr K3.out k4.out); have J4 := Lib.hid (ktr J3.out k4.out); clear k4))
    | (go_at_call 10; (with_reducible refine (post_sized _ u y l _ (R2.out.kpt J4.out) (RL.out.kpt K4.out) P2.out.lines P1.out.chk).mono ?_); rintro e w5 ⟨k5, ⟨a5, c5, rfl⟩ | ⟨a5, c5, rfl⟩ | ⟨r, a5, c5, P5, R5, rfl⟩⟩ <;> (have K5 := Lib.hid (ktr K4.out k5.out); have J5 := Lib.hid k5.out; clear k5))
    | (go_at_call 22; (with_reducible refine (same_any _ _ p _ (R4.out.kpt J5.out) (order_at P1.out P2.out P4.out P5.out R5.out)).mono ?_); rintro e w7 ⟨rfl, k7⟩; have K7 := Lib.hid (ktr K5.out k7); clear k7))
  all_goals
    go_ret
    first
      | exact ⟨rfl, K7.out⟩
      | exact ⟨rfl, K5.out⟩
      | exact ⟨rfl, K3.out⟩

theorem few60 {l : List (Int × Int × Int)} (h : chkE l = 0) : l.length ≤ 60 := (chk_0 h).2.1
theorem own_empty (w : World) (B : Nat) (h : B ≤ w.heap.size) : OwnsP (w.alloc (.cells #[] 35)) B (.slice (some ⟨w.heap.size, 0, none⟩) 0 0) [] :=
  ⟨rfl, .inr ⟨w.heap.size, 0, #[], rfl, h, Blk.made w #[] _, Nat.le_refl _, Nat.zero_le _, rfl, rfl⟩⟩
theorem post_many (v u : Value) (b l : List (Int × Int × Int)) (w : World) (hb : ReadsP w v b) (hl : ReadsP w u l) (h0 : linE b = 0) (h1 : 60 < l.length) : Calls Try.prog 10 #[v, u] w fun e w' => ∃ a c, e = .returned (.tuple #[.slice a 0 c, .int .i64 2]) ∧ Hid (Kpt w w') := by
  have hc : chkE l = 2 := by unfold chkE; rw [if_neg (by intro e; rw [e] at h1; simp at h1), if_pos h1]
  refine (post_any v u b l w hb hl).mono ?_
  rintro e w' ⟨hk, R, E, v', hr, ho, rfl⟩
  obtain ⟨a, c, rfl⟩ := ho.form
  rcases hr with ⟨h2, _⟩ | ⟨_, _, rfl, rfl⟩ | ⟨_, h2, _⟩
  · exact absurd h0 h2
  · rw [hc]; exact ⟨a, c, rfl, hk⟩
  · rw [hc] at h2; exact absurd h2 (by decide)

theorem post_fails (v u : Value) (b l : List (Int × Int × Int)) (w : World) (hb : ReadsP w v b) (hl : ReadsP w u l) (h : ∀ R, ¬ Posted b l R) : Calls Try.prog 10 #[v, u] w fun e w' => ∃ (E : Int) (a : Option Addr) (c : Nat), (E == 0) = false ∧ (E != 0) = true ∧ Hid (ReadsP w' (.slice a 0 c) []) ∧ Hid (Kpt w w') ∧ e = .returned (.tuple #[.slice a 0 c, .int .i64 E]) := by
  refine (post_split v u b l w hb hl).mono ?_
  rintro e w' ⟨k, ⟨E, a, c, h1, h2, h3, h4⟩ | ⟨R, _, _, P, _⟩⟩
  · exact ⟨E, a, c, h1, h2, h3, k, h4⟩
  · exact absurd P.out (h R)
theorem post_some (v u : Value) (b l : List (Int × Int × Int)) (w : World) (hb : ReadsP w v b) (hl : ReadsP w u l) : Calls Try.prog 10 #[v, u] w fun e w' => ∃ (E : Int) (a : Option Addr) (n c : Nat), Hid (Kpt w w') ∧ e = .returned (.tuple #[.slice a n c, .int .i64 E]) := by
  refine (post_any v u b l w hb hl).mono ?_
  rintro e w' ⟨hk, R, E, v', hr, ho, rfl⟩
  obtain ⟨a, c, rfl⟩ := ho.form
  exact ⟨E, a, _, c, hk, rfl⟩

set_option maxRecDepth 100000 in
set_option maxHeartbeats 2000000 in
theorem bookSplit_a (v u t : Value) (b l m : List (Int × Int × Int)) (w : World) (hb : ReadsP w v b) (hl : ReadsP w u l) (hm : ReadsP w t m) (h : ∀ R, ¬ Posted b l R) : Calls Try.prog 8 #[v, u, t] w fun e w' => e = .returned (.bool true) ∧ Kpt w w' := by
  have PX := Lib.hid (post_fails v u b l w hb hl h)
  have RM := Lib.hid hm
  clear hb hl hm h
  go_enter Try.func8, Try.ntmps8
  go_wp2_with (first
    | (go_at_call 10; (with_reducible refine PX.out.mono ?_); rintro e w1 ⟨E, a1, c1, q1, q2, X1, K1, rfl⟩)
    | (go_at_call 10; (with_reducible refine (post_some _ _ [] m _ X1.out (RM.out.kpt K1.out)).mono ?_); rintro e w2 ⟨F, a2, n2, c2, k2, rfl⟩; have K2 := Lib.hid (ktr K1.out k2.out); clear k2)
    | (go_at_call 19; (with_reducible refine (bookBegun _).mono ?_); rintro e w3 ⟨rfl, k3⟩; have K3 := Lib.hid (ktr K2.out k3); clear k3))
  all_goals
    go_ret
    exact ⟨rfl, K3.out⟩
set_option maxRecDepth 100000 in
set_option maxHeartbeats 2000000 in
theorem bookSplit_b (v u t : Value) (b l m x : List (Int × Int × Int)) (w : World) (hb : ReadsP w v b) (hl : ReadsP w u l) (hm : ReadsP w t m) (hx : Posted b l x) (h : ∀ R, ¬ Posted x m R) : Calls Try.prog 8 #[v, u, t] w fun e w' => e = .returned (.bool true) ∧ Kpt w w' := by
  have PX := Lib.hid (post_goes v u b l x w hb hl hx)
  have RM := Lib.hid hm
  have H := Lib.hid h
  clear hb hl hm h hx
  go_enter Try.func8, Try.ntmps8
  go_wp2_with (first
    | (go_at_call 10; (with_reducible refine PX.out.mono ?_); rintro e w1 ⟨a1, c1, rfl, R1, K1⟩)
    | (go_at_call 10; (with_reducible refine (post_fails _ _ x m _ R1.out (RM.out.kpt K1.out) H.out).mono ?_); rintro e w2 ⟨F, a2, c2, q3, q4, -, k2, rfl⟩; have K2 := Lib.hid (ktr K1.out k2.out); clear k2)
    | (go_at_call 19; (with_reducible refine (bookBegun _).mono ?_); rintro e w3 ⟨rfl, k3⟩; have K3 := Lib.hid (ktr K2.out k3); clear k3))
  all_goals
    go_ret
    exact ⟨rfl, K3.out⟩

theorem own_reads2 {w : World} {B : Nat} {v : Value} {l m : List (Int × Int × Int)} (h : OwnsP w B v ([] ++ l ++ m)) (hl : chkE l = 0) (hm : chkE m = 0) : ReadsP w v (l ++ m) :=
  h.reads (inP_of fun p hp => by
    rcases List.mem_append.1 hp with h | h
    · exact (chk_0 hl).2.2.1 p h
    · exact (chk_0 hm).2.2.1 p h)

set_option maxRecDepth 100000 in
set_option maxHeartbeats 2000000 in
theorem bookSplit_c (v u t : Value) (b l m x y : List (Int × Int × Int)) (w : World) (hb : ReadsP w v b) (hl : ReadsP w u l) (hm : ReadsP w t m) (hx : Posted b l x) (hy : Posted x m y) (hn : l.length + m.length ≤ 60) : Calls Try.prog 8 #[v, u, t] w fun e w' => e = .returned (.bool true) ∧ Kpt w w' := by
  have PX := Lib.hid (post_goes v u b l x w hb hl hx)
  have RB := Lib.hid hb; have RL := Lib.hid hl; have RM := Lib.hid hm
  have P1 := Lib.hid hx; have P2 := Lib.hid hy; have P3 := Lib.hid (hx.both hy hn)
  obtain ⟨al, cl, rfl, -⟩ := id hl
  obtain ⟨am, cm, rfl, -⟩ := id hm
  clear hb hl hm hx hy
  go_enter Try.func8, Try.ntmps8
  go_wp2_with (first
    | (go_at_call 10; (with_reducible refine PX.out.mono ?_); rintro e w1 ⟨a1, c1, rfl, R1, K1⟩)
    | (go_at_call 10; (with_reducible refine (post_goes _ _ x m y _ R1.out (RM.out.kpt K1.out) P2.out).mono ?_); rintro e w2 ⟨a2, c2, rfl, R2, k2⟩; have K2 := Lib.hid (ktr K1.out k2.out); clear k2 R1)
    | (go_at_call 19; (with_reducible refine (bookBegun _).mono ?_); rintro e w3 ⟨rfl, k3⟩; have K3 := Lib.hid (ktr K2.out k3); have R3 := Lib.hid (R2.out.kpt k3); clear k3 R2 K2 K1)
    | (at_builtin; refine wp_appendP rfl (.tmp 42) (.tmp 43) rfl w3.heap.size _ _ [] l _ rfl (own_empty w3 w3.heap.size (Nat.le_refl _)) rfl ((RL.out.kpt K3.out).kpt ((Kpt.refl _).alloc _)) (by simp; omega) (by simp) ?_; intro v4 w4 ho4 hb4; have O4 := Lib.hid ho4; have M4 : Hid (Kpt w3 w4) := Lib.hid (Below.trans ((Kpt.refl w3).alloc _) hb4); have K4 := Lib.hid (ktr K3.out M4.out); clear ho4 hb4)
    | (at_builtin; refine wp_appendP rfl (.tmp 44) (.tmp 45) rfl w3.heap.size _ _ ([] ++ l) m _ rfl O4.out rfl (RM.out.kpt K4.out) (by simp; omega) M4.out.size ?_; intro v5 w5 ho5 hb5; have O5 := Lib.hid ho5; have M5 : Hid (Kpt w3 w5) := Lib.hid (Below.trans M4.out hb5); have K5 := Lib.hid (ktr K3.out M5.out); have R5 := Lib.hid (R3.out.kpt M5.out); clear ho5 hb5 O4 M4 K4 R3 K3)
    | (go_at_call 10; (with_reducible refine (post_goes _ _ b (l ++ m) y _ (RB.out.kpt K5.out) (own_reads2 O5.out P1.out.chk P2.out.chk) P3.out).mono ?_); rintro e w6 ⟨a6, c6, rfl, R6, k6⟩; have K6 := Lib.hid (ktr K5.out k6.out); have Q6 := Lib.hid (R5.out.kpt k6.out); clear k6 R5 K5)
    | (go_at_call 22; (with_reducible refine (same_any _ _ y _ R6.out Q6.out).mono ?_); rintro e w7 ⟨rfl, k7⟩; have K7 := Lib.hid (ktr K6.out k7); clear k7))
  go_ret
  exact ⟨rfl, K7.out⟩

set_option maxRecDepth 100000 in
set_option maxHeartbeats 2000000 in
theorem bookSplit_d (v u t : Value) (b l m x y : List (Int × Int × Int)) (w : World) (hb : ReadsP w v b) (hl : ReadsP w u l) (hm : ReadsP w t m) (hx : Posted b l x) (hy : Posted x m y) (hn : 60 < l.length + m.length) : Calls Try.prog 8 #[v, u, t] w fun e w' => e = .returned (.bool true) ∧ Kpt w w' := by
  have PX := Lib.hid (post_goes v u b l x w hb hl hx)
  have RB := Lib.hid hb; have RL := Lib.hid hl; have RM := Lib.hid hm
  have P1 := Lib.hid hx; have P2 := Lib.hid hy
  have n1 := few60 hx.chk; have n2 := few60 hy.chk
  obtain ⟨al, cl, rfl, -⟩ := id hl
  obtain ⟨am, cm, rfl, -⟩ := id hm
  have hn' : (60 : Int) < (l.length : Int) + (m.length : Int) := by omega
  have hd : decide ((60 : Int) < (l.length : Int) + (m.length : Int)) = true := decide_eq_true hn'
  clear hb hl hm hx hy
  go_enter Try.func8, Try.ntmps8
  go_wp2_with (first
    | (go_at_call 10; (with_reducible refine PX.out.mono ?_); rintro e w1 ⟨a1, c1, rfl, R1, K1⟩)
    | (go_at_call 10; (with_reducible refine (post_goes _ _ x m y _ R1.out (RM.out.kpt K1.out) P2.out).mono ?_); rintro e w2 ⟨a2, c2, rfl, R2, k2⟩; have K2 := Lib.hid (ktr K1.out k2.out); clear k2 R1)
    | (go_at_call 19; (with_reducible refine (bookBegun _).mono ?_); rintro e w3 ⟨rfl, k3⟩; have K3 := Lib.hid (ktr K2.out k3); clear k3 R2 K2 K1)
    | (at_builtin; refine wp_appendP rfl (.tmp 42) (.tmp 43) rfl w3.heap.size _ _ [] l _ rfl (own_empty w3 w3.heap.size (Nat.le_refl _)) rfl ((RL.out.kpt K3.out).kpt ((Kpt.refl _).alloc _)) (by simp; omega) (by simp) ?_; intro v4 w4 ho4 hb4; have O4 := Lib.hid ho4; have M4 : Hid (Kpt w3 w4) := Lib.hid (Below.trans ((Kpt.refl w3).alloc _) hb4); have K4 := Lib.hid (ktr K3.out M4.out); clear ho4 hb4)
    | (at_builtin; refine wp_appendP rfl (.tmp 44) (.tmp 45) rfl w3.heap.size _ _ ([] ++ l) m _ rfl O4.out rfl (RM.out.kpt K4.out) (by simp; omega) M4.out.size ?_; intro v5 w5 ho5 hb5; have O5 := Lib.hid ho5; have M5 : Hid (Kpt w3 w5) := Lib.hid (Below.trans M4.out hb5); have K5 := Lib.hid (ktr K3.out M5.out); clear ho5 hb5 O4 M4 K4 K3)
    | (go_at_call 10; (with_reducible refine (post_many _ _ b (l ++ m) _ (RB.out.kpt K5.out) (own_reads2 O5.out P1.out.chk P2.out.chk) P1.out.lin (by rw [List.length_append]; exact hn)).mono ?_); rintro e w6 ⟨a6, c6, rfl, k6⟩; have K6 := Lib.hid (ktr K5.out k6.out); clear k6 K5))
  go_ret
  exact ⟨rfl, K6.out⟩

theorem bookSplit_walk (v u t : Value) (b l m : List (Int × Int × Int)) (w : World) (hb : ReadsP w v b) (hl : ReadsP w u l) (hm : ReadsP w t m) : Calls Try.prog 8 #[v, u, t] w fun e w' => e = .returned (.bool true) ∧ Kpt w w' := by
  by_cases h1 : ∃ x, Posted b l x
  · obtain ⟨x, hx⟩ := h1
    by_cases h2 : ∃ y, Posted x m y
    · obtain ⟨y, hy⟩ := h2
      by_cases hn : l.length + m.length ≤ 60
      · exact bookSplit_c v u t b l m x y w hb hl hm hx hy hn
      · exact bookSplit_d v u t b l m x y w hb hl hm hx hy (by omega)
    · exact bookSplit_b v u t b l m x w hb hl hm hx fun R h => h2 ⟨R, h⟩
  · exact bookSplit_a v u t b l m w hb hl hm fun R h => h1 ⟨R, h⟩

end Go.Proofs.Ytcpfldlcocencaa
