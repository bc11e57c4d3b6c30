/-
  What must be of books in any case: bookBegun answers true.
-/
import Derived.Test.YtcpfldlcocencaaBookP
import Derived.Test.YtcpfldlcocencaaBookO
namespace Go.Proofs.Ytcpfldlcocencaa
open Go.RowKit
set_option linter.unusedVariables false

theorem lit3 (w : World) (T : TypeId) (p q r : Int × Int × Int) (h : InP [p, q, r]) : ReadsP (w.alloc (.cells #[.int .i64 p.1, .int .i64 p.2.1, .int .i64 p.2.2, .int .i64 q.1, .int .i64 q.2.1, .int .i64 q.2.2, .int .i64 r.1, .int .i64 r.2.1, .int .i64 r.2.2] T)) (.slice (some ⟨w.heap.size, 0, none⟩) 3 3) [p, q, r] := by
  refine ⟨_, 3, rfl, (fun e => by cases e), by unfold maxLen; simp, h, fun j hj => ⟨w.heap.size, 0, rfl, ?_⟩⟩
  have B := Blk.made w #[.int .i64 p.1, .int .i64 p.2.1, .int .i64 p.2.2, .int .i64 q.1, .int .i64 q.2.1, .int .i64 q.2.2, .int .i64 r.1, .int .i64 r.2.1, .int .i64 r.2.2] T
  rcases (show j = 0 ∨ j = 1 ∨ j = 2 by simp at hj; omega) with rfl | rfl | rfl
  · exact ⟨B.cell 0, B.cell 1, B.cell 2⟩
  · exact ⟨B.cell 3, B.cell 4, B.cell 5⟩
  · exact ⟨B.cell 6, B.cell 7, B.cell 8⟩
/-- a post that goes, of which the book is known -/
theorem post_goes (v u : Value) (b l R : List (Int × Int × Int)) (w : World) (hb : ReadsP w v b) (hl : ReadsP w u l) (k : Posted b l R) :
    Calls Try.prog 10 #[v, u] w fun e w' => ∃ a cap, e = .returned (.tuple #[.slice a R.length cap, .int .i64 0]) ∧ Hid (ReadsP w' (.slice a R.length cap) R) ∧ Hid (Kpt w w') := by
  refine (post_any v u b l w hb hl).mono ?_
  rintro e w' ⟨hk, R', E, v', hr, ho, rfl⟩
  obtain ⟨rfl, rfl⟩ := post_known hr k
  obtain ⟨a, cap, rfl⟩ := ho.form
  exact ⟨a, cap, rfl, ho.reads (inP_of (strict_pt k.book.strict)), hk⟩
theorem turn_goes (v : Value) (l : List (Int × Int × Int)) (w : World) (hl : ReadsP w v l) (h : chkE l = 0) :
    Calls Try.prog 12 #[v] w fun e w' => ∃ a cap, e = .returned (.tuple #[.slice a l.length cap, .int .i64 0]) ∧ Hid (ReadsP w' (.slice a l.length cap) (turnP l)) ∧ Hid (Kpt w w') := by
  refine (turn_any v l w hl).mono ?_
  rintro e w' ⟨hk, ⟨h1, _⟩ | ⟨_, a, cap, ho, rfl⟩⟩
  · exact absurd h h1
  · exact ⟨a, cap, rfl, ho.reads (inP_of (turn_pt (chk_0 h).2.2.1)), hk⟩

theorem bb_post1 (w : World) (T : TypeId) : Calls Try.prog 10 #[.slice none 0 0, .slice (some ⟨w.heap.size, 0, none⟩) 3 3] (w.alloc (.cells #[.int .i64 2, .int .i64 0, .int .i64 5, .int .i64 1, .int .i64 0, .int .i64 (-8), .int .i64 3, .int .i64 0, .int .i64 3] T)) fun e w' => ∃ a cap, e = .returned (.tuple #[.slice a 3 cap, .int .i64 0]) ∧ Hid (ReadsP w' (.slice a 3 cap) B0) ∧ Hid (ReadsP w' (.slice (some ⟨w.heap.size, 0, none⟩) 3 3) L0) ∧ Hid (Kpt w w') := by
  have hL : ReadsP (w.alloc (.cells #[.int .i64 2, .int .i64 0, .int .i64 5, .int .i64 1, .int .i64 0, .int .i64 (-8), .int .i64 3, .int .i64 0, .int .i64 3] T)) (.slice (some ⟨w.heap.size, 0, none⟩) 3 3) L0 := lit3 w T (2, 0, 5) (1, 0, -8) (3, 0, 3) (inP_of (by decide))
  refine (post_goes _ _ [] L0 B0 _ (readsP_nil _ none 0 fun _ => rfl) hL posted_0).mono ?_
  rintro e w' ⟨a, cap, rfl, h1, h2⟩
  exact ⟨a, cap, rfl, h1, hL.kpt h2.out, ktr ((Kpt.refl w).alloc _) h2.out⟩
theorem bb_bal (v : Value) (w : World) (h : ReadsP w v B0) : Calls Try.prog 11 #[v, .int .i64 1, .int .i64 0] w fun e w' => e = .returned (.tuple #[.int .i64 (-8), .int .i64 0]) ∧ Hid (Kpt w w') := by
  refine (balance_any v B0 1 0 w h).mono ?_
  rintro e w' ⟨rfl, g⟩
  exact ⟨by rw [show balR B0 1 0 = -8 by decide, show balE B0 1 0 = 0 by decide], g.kpt⟩
theorem bb_turn (v : Value) (w : World) (h : ReadsP w v L0) : Calls Try.prog 12 #[v] w fun e w' => ∃ a cap, e = .returned (.tuple #[.slice a 3 cap, .int .i64 0]) ∧ Hid (ReadsP w' (.slice a 3 cap) T0) ∧ Hid (Kpt w w') := by
  refine (turn_goes v L0 w h chk_L0).mono ?_
  rintro e w' ⟨a, cap, rfl, h1, h2⟩
  exact ⟨a, cap, rfl, by rw [← turn_L0]; exact h1.out, h2⟩
theorem bb_post2 (v u : Value) (w : World) (h : ReadsP w v B0) (h' : ReadsP w u T0) : Calls Try.prog 10 #[v, u] w fun e w' => ∃ a cap, e = .returned (.tuple #[.slice a 0 cap, .int .i64 0]) ∧ Hid (Kpt w w') := by
  refine (post_goes v u B0 T0 [] w h h' posted_1).mono ?_
  rintro e w' ⟨a, cap, rfl, h1, h2⟩
  exact ⟨a, cap, rfl, h2⟩
theorem bb_trial (v : Value) (w : World) (h : ReadsP w v B0) : Calls Try.prog 13 #[v] w fun e w' => ∃ g, e = .returned (.tuple #[.slice (some ⟨g, 0, none⟩) 21 21, .int .i64 0]) ∧ w'.cell? ⟨g, 0, none⟩ = some (.int .i64 8) ∧ Hid (Kpt w w') := by
  refine (trial_any v B0 w h).mono ?_
  rintro e w' ⟨hg, ⟨h1, _⟩ | ⟨_, ⟨_, g, hg', rfl, hr⟩ | ⟨⟨u, hu, hx⟩, _⟩⟩⟩
  · exact absurd (by decide) h1
  · exact ⟨g, rfl, hr.cell (j := 0) (by simp), hg.kpt⟩
  · exfalso
    have : ∀ u, u < 21 → amtB (posS B0 u) = true := by decide
    rw [this u hu] at hx
    cases hx
theorem bb_post3 (v : Value) (a : Option Addr) (w : World) (h : ReadsP w v B0) (h' : ReadsP w (.slice a 3 3) L0) : Calls Try.prog 10 #[v, .slice a 2 3] w fun e w' => ∃ a' c', e = .returned (.tuple #[.slice a' 0 c', .int .i64 4]) ∧ Hid (Kpt w w') := by
  refine (post_any v _ B0 (L0.take 2) w h (h'.take 2 (by decide))).mono ?_
  rintro e w' ⟨hk, R, E, v', hr, ho, rfl⟩
  obtain ⟨rfl, rfl⟩ := res_2 hr
  obtain ⟨a', c', rfl⟩ := ho.form
  exact ⟨a', c', rfl, hk⟩

set_option maxRecDepth 100000 in
set_option maxHeartbeats 4000000 in
theorem bookBegun (w : World) : Calls Try.prog 19 #[] w fun e w' => e = .returned (.bool true) ∧ Kpt w w' := by
  have CN := Lib.hid (fun w => bookCheck_none none 0 w)
  have LN := Lib.hid (fun w => lines_none none 0 w)
  go_enter Try.func19, Try.ntmps19
  go_wp2_with (first
    | (go_at_call 10; (with_reducible refine (bb_post1 _ _).mono ?_); rintro e w1 ⟨a1, c1, rfl, B, L, G⟩)
    | (go_at_call 11; (with_reducible refine (bb_bal _ _ B.out).mono ?_); rintro e w2 ⟨rfl, k⟩; have B := Lib.hid (B.out.kpt k.out); have L := Lib.hid (L.out.kpt k.out); have G := Lib.hid (ktr G.out k.out); clear k)
    | (go_at_call 12; (with_reducible refine (bb_turn _ _ L.out).mono ?_); rintro e w3 ⟨a3, c3, rfl, T, k⟩; have B := Lib.hid (B.out.kpt k.out); have L := Lib.hid (L.out.kpt k.out); have G := Lib.hid (ktr G.out k.out); clear k)
    | (go_at_call 10; (with_reducible refine (bb_post2 _ _ _ B.out T.out).mono ?_); rintro e w4 ⟨a4, c4, rfl, k⟩; have B := Lib.hid (B.out.kpt k.out); have L := Lib.hid (L.out.kpt k.out); have T := Lib.hid (T.out.kpt k.out); have G := Lib.hid (ktr G.out k.out); clear k)
    | (go_at_call 13; (with_reducible refine (bb_trial _ _ B.out).mono ?_); rintro e w5 ⟨g5, rfl, s5, k⟩; have S5 := Lib.hid s5; clear s5; have B := Lib.hid (B.out.kpt k.out); have L := Lib.hid (L.out.kpt k.out); have T := Lib.hid (T.out.kpt k.out); have G := Lib.hid (ktr G.out k.out); clear k)
    | (go_at_call 10; (with_reducible refine (bb_post3 _ _ _ B.out L.out).mono ?_); rintro e w6 ⟨a6, c6, rfl, k⟩; have S6 := Lib.hid (k.out.cell S5.out); have s6 := S6.out; have B := Lib.hid (B.out.kpt k.out); have T := Lib.hid (T.out.kpt k.out); have G := Lib.hid (ktr G.out k.out); clear k; have BL := Lib.hid (lit3 w6 35 (1, 0, -8) (2, 0, 5) (3, 0, 3) (inP_of (by decide))))
    | (go_at_call 22; (with_reducible refine (same_any _ _ B0 _ (B.out.kpt ((Kpt.refl _).alloc _)) BL.out).mono ?_); rintro e w7 ⟨rfl, k⟩; have s7 := k.cell (((Kpt.refl _).alloc _).cell S6.out); have S7 := Lib.hid s7; have T := Lib.hid (T.out.kpt (ktr ((Kpt.refl _).alloc _) k)); have G := Lib.hid (ktr (G.out.alloc _) k); clear k B BL; have TL := Lib.hid (lit3 w7 35 (3, 0, -3) (1, 0, 8) (2, 0, -5) (inP_of (by decide))))
    | (go_at_call 22; (with_reducible refine (same_any _ _ T0 _ (T.out.kpt ((Kpt.refl _).alloc _)) TL.out).mono ?_); rintro e w8 ⟨rfl, k⟩; have s8 := k.cell (((Kpt.refl _).alloc _).cell S7.out); have G := Lib.hid (ktr (G.out.alloc _) k); clear k)
    | (go_at_call 20; (with_reducible refine (CN.out _).mono ?_); rintro e w9 ⟨rfl, k⟩; have G := Lib.hid (ktr G.out k.kpt); clear k)
    | (go_at_call 21; (with_reducible refine (LN.out _).mono ?_); rintro e w10 ⟨rfl, k⟩; have G := Lib.hid (ktr G.out k.kpt); clear k))
  go_ret
  exact ⟨rfl, G.out⟩

end Go.Proofs.Ytcpfldlcocencaa
